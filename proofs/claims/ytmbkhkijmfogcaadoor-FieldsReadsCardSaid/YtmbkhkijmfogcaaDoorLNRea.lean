/- The walk of FieldsReads. -/
import Derived.Test.YtmbkhkijmfogcaaDoorNx
import Derived.Deep.Cut
import Derived.Deep.RegionWith
import Derived.BigRegion
namespace Go.Proofs.YtmbkhkijmfogcaaDoor
open Go.RowKit

theorem conv_byte (W : World) (q : Nat) (b : UInt8) (hW : W.cell? ⟨q, 0, none⟩ = some (.int .u8 b.toNat)) :
    (convert 64 9 (.slice (some ⟨q, 0, none⟩) 1 1)).run Tryd.prog W = .ok (.string ⟨#[b]⟩) W := conv_one 64 W q b Tryd.underlying64 hW
theorem ext_le (s : ByteArray) (a b : Nat) {n : Nat} (h : s.size ≤ n) : (s.extract a b).size ≤ n := by
  rw [ByteArray.size_extract]
  omega

theorem set10 (o q : Ob) : (((((((((((obc o).setIfInBounds 0 (.int .i64 q.n)).setIfInBounds 1 (.int .i64 q.a.1)).setIfInBounds 2 (.int .u32 q.a.2)).setIfInBounds 3 (.int .i64 q.b.1)).setIfInBounds 4 (.int .u32 q.b.2)).setIfInBounds 5 (.int .i64 q.c.1)).setIfInBounds 6 (.int .u32 q.c.2)).setIfInBounds 7 (.int .i64 q.d.1)).setIfInBounds 8 (.int .u32 q.d.2)).setIfInBounds 9 (.bool q.h)) = obc q := by simp [obc]
theorem put10 {W : World} {b : Nat} {t : TypeId} {o : Ob} (h : Bk W b t (obc o)) (q : Ob) : Bk (((((((((((W.setCell ⟨b, 0, none⟩ (.int .i64 q.n)).setCell ⟨b, 1, none⟩ (.int .i64 q.a.1)).setCell ⟨b, 2, none⟩ (.int .u32 q.a.2)).setCell ⟨b, 3, none⟩ (.int .i64 q.b.1)).setCell ⟨b, 4, none⟩ (.int .u32 q.b.2)).setCell ⟨b, 5, none⟩ (.int .i64 q.c.1)).setCell ⟨b, 6, none⟩ (.int .u32 q.c.2)).setCell ⟨b, 7, none⟩ (.int .i64 q.d.1)).setCell ⟨b, 8, none⟩ (.int .u32 q.d.2)).setCell ⟨b, 9, none⟩ (.bool q.h))) b t (obc q) := by
  have h1 := (((((((((h.put 0 (.int .i64 q.n)).put 1 (.int .i64 q.a.1)).put 2 (.int .u32 q.a.2)).put 3 (.int .i64 q.b.1)).put 4 (.int .u32 q.b.2)).put 5 (.int .i64 q.c.1)).put 6 (.int .u32 q.c.2)).put 7 (.int .i64 q.d.1)).put 8 (.int .u32 q.d.2)).put 9 (.bool q.h)
  rw [set10 o q] at h1
  exact h1
def arrB (q p : Ob) : Bool := (q.a.1 == p.a.1 && q.a.2 == p.a.2) && (q.b.1 == p.b.1 && q.b.2 == p.b.2) && (q.c.1 == p.c.1 && q.c.2 == p.c.2) && (q.d.1 == p.d.1 && q.d.2 == p.d.2)
theorem arrB_iff {q p : Ob} (h : arrB q p = true) : q.a = p.a ∧ q.b = p.b ∧ q.c = p.c ∧ q.d = p.d := by
  simp only [arrB, Bool.and_eq_true, beq_iff_eq] at h
  obtain ⟨⟨⟨h1, h2⟩, h3⟩, h4⟩ := h
  exact ⟨Prod.ext h1.1 h1.2, Prod.ext h2.1 h2.2, Prod.ext h3.1 h3.2, Prod.ext h4.1 h4.2⟩
/-- Objects that differ, differ in what is compared first, second, or last. -/
theorem ob_ne {q p : Ob} (h : q ≠ p) : (q.n ≠ p.n) ∨ (q.n = p.n ∧ arrB q p = false) ∨ (q.n = p.n ∧ arrB q p = true ∧ q.h = true ∧ p.h = false) ∨ (q.n = p.n ∧ arrB q p = true ∧ q.h = false ∧ p.h = true) := by
  by_cases hn : q.n = p.n
  · cases hb : arrB q p with
    | false => exact .inr (.inl ⟨hn, rfl⟩)
    | true =>
      obtain ⟨h1, h2, h3, h4⟩ := arrB_iff hb
      obtain ⟨qn, qa, qb, qc, qd, qh⟩ := q
      obtain ⟨pn, pa, pb, pc, pd, ph⟩ := p
      simp only at hn h1 h2 h3 h4
      subst hn h1 h2 h3 h4
      cases qh <;> cases ph
      · exact absurd rfl h
      · exact .inr (.inr (.inr ⟨rfl, rfl, rfl, rfl⟩))
      · exact .inr (.inr (.inl ⟨rfl, rfl, rfl, rfl⟩))
      · exact absurd rfl h
  · exact .inl hn

set_option maxRecDepth 1000000 in
set_option maxHeartbeats 8000000 in
theorem nRea_in (s : ByteArray) (b : UInt8) (a : Int) (w : World) (hs : s.size ≤ 300) (ha1 : 0 ≤ a) (ha2 : a ≤ 255) (p : Ob) (hp : Poss p) (hsp : s.data.toList = otxt p) (he : Env w) :
    Calls Tryd.prog 8 #[.string s, .int .u8 b.toNat, .int .u8 a] w fun e w' => e = .returned (.bool true) ∧ Below w.heap.size w w' := by
  have h1 : ¬ (300 : Int) < (s.size : Int) := by omega
  have HPA := Lib.hid (parse_any s (by omega))
  rw [hsp, parse_ok' hp] at HPA
  have HT := Lib.hid (text_any p hp.rg)
  rw [text_ok' hp] at HT
  simp only at HPA HT
  rw [show (⟨(otxt p).toArray⟩ : ByteArray) = s from (str_eq hsp).symm] at HT
  have HC := Lib.hid (check_any p hp.rg)
  rw [chk_ok hp] at HC
  obtain ⟨K, hK⟩ : ∃ K : Nat, a % ((s.size : Int) + 1) = K := ⟨(a % ((s.size : Int) + 1)).toNat, by have := Int.emod_nonneg a (b := (s.size : Int) + 1) (by omega); omega⟩
  have hK1 : K ≤ s.size := by have := Int.emod_lt_of_pos a (b := (s.size : Int) + 1) (by omega); omega
  have hK2 : a.tmod ((s.size : Int) + 1) = K := by rw [Int.tmod_eq_emod_of_nonneg ha1]; exact hK
  have hwa : IntKind.i64.wrap a = a := IntWalk.i64_in _ (by omega)
  have hws : IntKind.i64.wrap ((s.size : Int) + 1) = (s.size : Int) + 1 := IntWalk.i64_in _ (by omega)
  have hz0 : ((s.size : Int) + 1 == 0) = false := beq_eq_false_iff_ne.2 (by omega)
  unfold obv obc at HPA HT HC
  have HE0 := Lib.hid he
  have HB0 := Lib.hid (Below.refl w.heap.size w)
  clear he
  go_enter Tryd.func8, Tryd.ntmps8
  go_wp2_with fail
  refine (HPA.out _ HE0.out).mono ?_
  rintro e w1_ ⟨rfl, hb⟩
  obtain ⟨W1, hW⟩ : ∃ W1, (w1_.alloc (.cells (obc p) 27)) = W1 := ⟨_, rfl⟩
  obtain ⟨k0, hsz1, hal⟩ := one_box w1_ _ _ hW
  have hst := bel2 hb hal
  have HP_1 := Lib.hid k0
  have HE1 := Lib.hid (HE0.out.below hst)
  have HB1 := Lib.hid (bel2 HB0.out hst)
  have HW1 := Lib.hid hW
  simp only [obc] at HW1
  clear hst hW hb hal k0
  go_upto_region 4 with fail
  rw [HW1.out]
  obtain ⟨p_0, p_1, p_2, p_3, p_4, p_5, p_6, p_7, p_8, p_9⟩ := HP_1.out.ob
  go_wp2_with fail
  refine (HT.out _ HE1.out).mono ?_
  rintro e w2_ ⟨rfl, hb⟩
  obtain ⟨W2, hW⟩ : ∃ W2, w2_ = W2 := ⟨_, rfl⟩
  have hst := hb
  rw [hW] at hst
  have HP_2 := Lib.hid (HP_1.out.below hst)
  have HE2 := Lib.hid (HE1.out.below hst)
  have HB2 := Lib.hid (bel2 HB1.out hst)
  have HW2 := Lib.hid hW
  clear p_0 p_1 p_2 p_3 p_4 p_5 p_6 p_7 p_8 p_9
  clear hst hW hb
  go_upto_region 7 with fail
  rw [HW2.out]
  go_upto_region 8 with fail
  obtain ⟨X, hX⟩ : ∃ X : ByteArray, s.extract 0 K ++ ⟨#[b]⟩ ++ s.extract K s.size = X := ⟨_, rfl⟩
  have hXs : X.size = s.size + 1 := by
    rw [← hX, ByteArray.size_append, ByteArray.size_append, ByteArray.size_extract, ByteArray.size_extract]
    show _ + 1 + _ = _
    omega
  have HPX := Lib.hid (parse_any X (by omega))
  obtain ⟨⟨q, qe⟩, hq⟩ : ∃ u : Ob × Int, parseR X.data.toList = u := ⟨_, rfl⟩
  have hqp : qe = 9 ∨ (qe = 0 ∧ q ≠ p) := by
    rcases obj_or X.data.toList with ⟨r, hr, h⟩ | h
    · rw [h, parse_ok' hr] at hq
      refine .inr ⟨(congrArg Prod.snd hq).symm, fun e => ?_⟩
      have e2 : r = p := (congrArg Prod.fst hq).trans e
      rw [e2, ← hsp] at h
      have h1 := Lib.size_eq X
      have h2 := Lib.size_eq s
      rw [h] at h1
      omega
    · rw [parse_bad' h] at hq
      exact .inl (congrArg Prod.snd hq).symm
  rw [hq] at HPX
  unfold obv obc at HPX
  simp only at HPX
  have hl1 : (s.extract 0 K).size ≤ 300 := ext_le s 0 K hs
  have hl2 : (s.extract K s.size).size ≤ 300 := ext_le s K s.size hs
  have hcv := fun (W : World) (q : Nat) (hW : W.cell? ⟨q, 0, none⟩ = some (.int .u8 b.toNat)) => conv_byte W q b hW
  have f2 : ¬ 9223372036854775807 < min K s.size + 1 := by omega
  have f3 : ¬ 9223372036854775807 < min K s.size + 1 + (s.size - K) := by omega
  have r1 : (0 : Int) ≤ (K : Int) := by omega
  have r2 : (K : Int) ≤ (s.size : Int) := by omega
  rw [← hX] at HPX
  clear hq hX
  have ZBb : Hid (Bk ((W2.alloc (.cells #[.int .u8 b.toNat] 5)).alloc (.cells #[.int .i64 0, .int .i64 0, .int .u32 0, .int .i64 0, .int .u32 0, .int .i64 0, .int .u32 0, .int .i64 0, .int .u32 0, .bool false] 27)) (W2.heap.size + 1) 27 (obc ob0)) := (two_boxes W2 _ _ _ _ rfl).2.1
  have ZBc : Hid (Bk ((W2.alloc (.cells #[.int .i64 0, .int .i64 0, .int .u32 0, .int .i64 0, .int .u32 0, .int .i64 0, .int .u32 0, .int .i64 0, .int .u32 0, .bool false] 27)).alloc (.cells #[.int .u8 b.toNat] 5)) W2.heap.size 27 (obc ob0)) := (two_boxes W2 _ _ _ _ rfl).1
  have hArr : ∀ W, (Op.equalIn 9999 25 (.agg #[.int .i64 q.a.1, .int .u32 q.a.2, .int .i64 q.b.1, .int .u32 q.b.2, .int .i64 q.c.1, .int .u32 q.c.2, .int .i64 q.d.1, .int .u32 q.d.2]) (.agg #[.int .i64 p.a.1, .int .u32 p.a.2, .int .i64 p.b.1, .int .u32 p.b.2, .int .i64 p.c.1, .int .u32 p.c.2, .int .i64 p.d.1, .int .u32 p.d.2])).run Tryd.prog W = .ok (arrB q p) W := fun W => eqArr W _ _ _ _ _ _ _ _ _ _ _ _ _ _ _ _
  try simp only [List.append_eq, List.cons_append, List.nil_append]
  go_region_with (first
    | (go_at_call 25; (with_reducible refine (HPX.out ((W2.alloc (.cells #[.int .u8 b.toNat] 5)).drew) (HE2.out.below (bel2 (bup W2 _) (bel_dr _)))).mono ?_); rintro e u1 ⟨rfl, hb1⟩; have S1 := Lib.hid (bel2 (bel2 (bup W2 _) (bel_dr _)) hb1); clear hb1)
    | (go_at_call 25; (with_reducible refine (HPX.out (((W2.alloc (.cells #[.int .u8 b.toNat] 5)).alloc (.cells #[.int .i64 0, .int .i64 0, .int .u32 0, .int .i64 0, .int .u32 0, .int .i64 0, .int .u32 0, .int .i64 0, .int .u32 0, .bool false] 27)).drew) (HE2.out.below (bel2 (bup2 W2 _ _) (bel_dr _)))).mono ?_); rintro e u1 ⟨rfl, hb1⟩; have S1 := Lib.hid (bel2 (bel2 (bup2 W2 _ _) (bel_dr _)) hb1); have KZ := Lib.hid ((ZBb.out.below (bel_dr _)).below hb1); obtain ⟨z0, z1, z2, z3, z4, z5, z6, z7, z8, z9⟩ := KZ.out.ob; obtain ⟨y0, y1, y2, y3, y4, y5, y6, y7, y8, y9⟩ := KZ.out.ofz; simp only [ob0] at z0 z1 z2 z3 z4 z5 z6 z7 z8 z9; clear hb1)
    | (go_at_call 25; (with_reducible refine (HPX.out (((W2.alloc (.cells #[.int .i64 0, .int .i64 0, .int .u32 0, .int .i64 0, .int .u32 0, .int .i64 0, .int .u32 0, .int .i64 0, .int .u32 0, .bool false] 27)).alloc (.cells #[.int .u8 b.toNat] 5)).drew) (HE2.out.below (bel2 (bup2 W2 _ _) (bel_dr _)))).mono ?_); rintro e u1 ⟨rfl, hb1⟩; have S1 := Lib.hid (bel2 (bel2 (bup2 W2 _ _) (bel_dr _)) hb1); have KZ := Lib.hid ((ZBc.out.below (bel_dr _)).below hb1); obtain ⟨z0, z1, z2, z3, z4, z5, z6, z7, z8, z9⟩ := KZ.out.ob; obtain ⟨y0, y1, y2, y3, y4, y5, y6, y7, y8, y9⟩ := KZ.out.ofz; simp only [ob0] at z0 z1 z2 z3 z4 z5 z6 z7 z8 z9; clear hb1))
  all_goals
    first
    | (
      obtain ⟨W3, hW⟩ : ∃ W3, u1.alloc (.cells #[.int .i64 q.n, .int .i64 q.a.1, .int .u32 q.a.2, .int .i64 q.b.1, .int .u32 q.b.2, .int .i64 q.c.1, .int .u32 q.c.2, .int .i64 q.d.1, .int .u32 q.d.2, .bool q.h] 27) = W3 := ⟨_, rfl⟩
      rw [hW]
      have hst : Below u1.heap.size u1 W3 := by rw [← hW]; exact bup _ _
      have HQ_3 : Hid (Bk W3 u1.heap.size 27 (obc q)) := by unfold Hid; rw [← hW]; exact Bk.new _ _ _
      have HBelow := Lib.hid (bel2 S1.out hst)
      have HP_3 := Lib.hid (HP_2.out.below HBelow.out)
      have HE3 := Lib.hid (HE2.out.below HBelow.out)
      have HB3 := Lib.hid (bel2 HB2.out HBelow.out)
      clear hW
      obtain ⟨p_0, p_1, p_2, p_3, p_4, p_5, p_6, p_7, p_8, p_9⟩ := HP_3.out.ob
      go_wp2_with fail
      refine (HC.out _).mono ?_
      rintro e w4_ ⟨rfl, hb⟩
      obtain ⟨W4, hW⟩ : ∃ W4, w4_ = W4 := ⟨_, rfl⟩
      have hst := hb
      rw [hW] at hst
      have HP_4 := Lib.hid (HP_3.out.below hst)
      have HQ_4 := Lib.hid (HQ_3.out.below hst)
      have HE4 := Lib.hid (HE3.out.below hst)
      have HB4 := Lib.hid (bel2 HB3.out hst)
      have HW4 := Lib.hid hW
      clear p_0 p_1 p_2 p_3 p_4 p_5 p_6 p_7 p_8 p_9
      clear hst hW hb
      rw [show w4_ = W4 from HW4.out]
      obtain ⟨p_0, p_1, p_2, p_3, p_4, p_5, p_6, p_7, p_8, p_9⟩ := HP_4.out.ob
      obtain ⟨q_0, q_1, q_2, q_3, q_4, q_5, q_6, q_7, q_8, q_9⟩ := HQ_4.out.ob
      rcases hqp with rfl | ⟨rfl, hne⟩
      · clear hArr
        go_wp2_with fail
        refine (works_ok _ HE4.out).mono ?_
        rintro e wz ⟨rfl, hb⟩
        have HBZ := Lib.hid (bel2 HB4.out hb)
        clear hb
        clear p_0 p_1 p_2 p_3 p_4 p_5 p_6 p_7 p_8 p_9 q_0 q_1 q_2 q_3 q_4 q_5 q_6 q_7 q_8 q_9
        go_wp2
        go_ret
        exact ⟨rfl, HBZ.out⟩
      · rcases ob_ne hne with h1 | ⟨h1, h2⟩ | ⟨h1, h2, h3, h4⟩ | ⟨h1, h2, h3, h4⟩
        all_goals
          clear hne
          go_wp2_with fail
          refine (works_ok _ HE4.out).mono ?_
          rintro e wz ⟨rfl, hb⟩
          have HBZ := Lib.hid (bel2 HB4.out hb)
          clear hb
          clear p_0 p_1 p_2 p_3 p_4 p_5 p_6 p_7 p_8 p_9 q_0 q_1 q_2 q_3 q_4 q_5 q_6 q_7 q_8 q_9
          go_wp2
          go_ret
          exact ⟨rfl, HBZ.out⟩
      )
    | (
      obtain ⟨W3, hW⟩ : ∃ W3, ((((((((((u1.setCell ⟨W2.heap.size + 1, 0, none⟩ (.int .i64 q.n)).setCell ⟨W2.heap.size + 1, 1, none⟩ (.int .i64 q.a.1)).setCell ⟨W2.heap.size + 1, 2, none⟩ (.int .u32 q.a.2)).setCell ⟨W2.heap.size + 1, 3, none⟩ (.int .i64 q.b.1)).setCell ⟨W2.heap.size + 1, 4, none⟩ (.int .u32 q.b.2)).setCell ⟨W2.heap.size + 1, 5, none⟩ (.int .i64 q.c.1)).setCell ⟨W2.heap.size + 1, 6, none⟩ (.int .u32 q.c.2)).setCell ⟨W2.heap.size + 1, 7, none⟩ (.int .i64 q.d.1)).setCell ⟨W2.heap.size + 1, 8, none⟩ (.int .u32 q.d.2)).setCell ⟨W2.heap.size + 1, 9, none⟩ (.bool q.h)) = W3 := ⟨_, rfl⟩
      rw [hW]
      have HQ_3 : Hid (Bk W3 (W2.heap.size + 1) 27 (obc q)) := by unfold Hid; rw [← hW]; exact put10 KZ.out q
      have HBelow : Hid (Below W2.heap.size W2 W3) := by unfold Hid; rw [← hW]; exact bel10 S1.out (by omega) _ _ _ _ _ _ _ _ _ _
      clear z0 z1 z2 z3 z4 z5 z6 z7 z8 z9 y0 y1 y2 y3 y4 y5 y6 y7 y8 y9
      have HP_3 := Lib.hid (HP_2.out.below HBelow.out)
      have HE3 := Lib.hid (HE2.out.below HBelow.out)
      have HB3 := Lib.hid (bel2 HB2.out HBelow.out)
      clear hW
      obtain ⟨p_0, p_1, p_2, p_3, p_4, p_5, p_6, p_7, p_8, p_9⟩ := HP_3.out.ob
      go_wp2_with fail
      refine (HC.out _).mono ?_
      rintro e w4_ ⟨rfl, hb⟩
      obtain ⟨W4, hW⟩ : ∃ W4, w4_ = W4 := ⟨_, rfl⟩
      have hst := hb
      rw [hW] at hst
      have HP_4 := Lib.hid (HP_3.out.below hst)
      have HQ_4 := Lib.hid (HQ_3.out.below hst)
      have HE4 := Lib.hid (HE3.out.below hst)
      have HB4 := Lib.hid (bel2 HB3.out hst)
      have HW4 := Lib.hid hW
      clear p_0 p_1 p_2 p_3 p_4 p_5 p_6 p_7 p_8 p_9
      clear hst hW hb
      rw [show w4_ = W4 from HW4.out]
      obtain ⟨p_0, p_1, p_2, p_3, p_4, p_5, p_6, p_7, p_8, p_9⟩ := HP_4.out.ob
      obtain ⟨q_0, q_1, q_2, q_3, q_4, q_5, q_6, q_7, q_8, q_9⟩ := HQ_4.out.ob
      rcases hqp with rfl | ⟨rfl, hne⟩
      · clear hArr
        go_wp2_with fail
        refine (works_ok _ HE4.out).mono ?_
        rintro e wz ⟨rfl, hb⟩
        have HBZ := Lib.hid (bel2 HB4.out hb)
        clear hb
        clear p_0 p_1 p_2 p_3 p_4 p_5 p_6 p_7 p_8 p_9 q_0 q_1 q_2 q_3 q_4 q_5 q_6 q_7 q_8 q_9
        go_wp2
        go_ret
        exact ⟨rfl, HBZ.out⟩
      · rcases ob_ne hne with h1 | ⟨h1, h2⟩ | ⟨h1, h2, h3, h4⟩ | ⟨h1, h2, h3, h4⟩
        all_goals
          clear hne
          go_wp2_with fail
          refine (works_ok _ HE4.out).mono ?_
          rintro e wz ⟨rfl, hb⟩
          have HBZ := Lib.hid (bel2 HB4.out hb)
          clear hb
          clear p_0 p_1 p_2 p_3 p_4 p_5 p_6 p_7 p_8 p_9 q_0 q_1 q_2 q_3 q_4 q_5 q_6 q_7 q_8 q_9
          go_wp2
          go_ret
          exact ⟨rfl, HBZ.out⟩
      )
    | (
      obtain ⟨W3, hW⟩ : ∃ W3, ((((((((((u1.setCell ⟨W2.heap.size, 0, none⟩ (.int .i64 q.n)).setCell ⟨W2.heap.size, 1, none⟩ (.int .i64 q.a.1)).setCell ⟨W2.heap.size, 2, none⟩ (.int .u32 q.a.2)).setCell ⟨W2.heap.size, 3, none⟩ (.int .i64 q.b.1)).setCell ⟨W2.heap.size, 4, none⟩ (.int .u32 q.b.2)).setCell ⟨W2.heap.size, 5, none⟩ (.int .i64 q.c.1)).setCell ⟨W2.heap.size, 6, none⟩ (.int .u32 q.c.2)).setCell ⟨W2.heap.size, 7, none⟩ (.int .i64 q.d.1)).setCell ⟨W2.heap.size, 8, none⟩ (.int .u32 q.d.2)).setCell ⟨W2.heap.size, 9, none⟩ (.bool q.h)) = W3 := ⟨_, rfl⟩
      rw [hW]
      have HQ_3 : Hid (Bk W3 (W2.heap.size) 27 (obc q)) := by unfold Hid; rw [← hW]; exact put10 KZ.out q
      have HBelow : Hid (Below W2.heap.size W2 W3) := by unfold Hid; rw [← hW]; exact bel10 S1.out (by omega) _ _ _ _ _ _ _ _ _ _
      clear z0 z1 z2 z3 z4 z5 z6 z7 z8 z9 y0 y1 y2 y3 y4 y5 y6 y7 y8 y9
      have HP_3 := Lib.hid (HP_2.out.below HBelow.out)
      have HE3 := Lib.hid (HE2.out.below HBelow.out)
      have HB3 := Lib.hid (bel2 HB2.out HBelow.out)
      clear hW
      obtain ⟨p_0, p_1, p_2, p_3, p_4, p_5, p_6, p_7, p_8, p_9⟩ := HP_3.out.ob
      go_wp2_with fail
      refine (HC.out _).mono ?_
      rintro e w4_ ⟨rfl, hb⟩
      obtain ⟨W4, hW⟩ : ∃ W4, w4_ = W4 := ⟨_, rfl⟩
      have hst := hb
      rw [hW] at hst
      have HP_4 := Lib.hid (HP_3.out.below hst)
      have HQ_4 := Lib.hid (HQ_3.out.below hst)
      have HE4 := Lib.hid (HE3.out.below hst)
      have HB4 := Lib.hid (bel2 HB3.out hst)
      have HW4 := Lib.hid hW
      clear p_0 p_1 p_2 p_3 p_4 p_5 p_6 p_7 p_8 p_9
      clear hst hW hb
      rw [show w4_ = W4 from HW4.out]
      obtain ⟨p_0, p_1, p_2, p_3, p_4, p_5, p_6, p_7, p_8, p_9⟩ := HP_4.out.ob
      obtain ⟨q_0, q_1, q_2, q_3, q_4, q_5, q_6, q_7, q_8, q_9⟩ := HQ_4.out.ob
      rcases hqp with rfl | ⟨rfl, hne⟩
      · clear hArr
        go_wp2_with fail
        refine (works_ok _ HE4.out).mono ?_
        rintro e wz ⟨rfl, hb⟩
        have HBZ := Lib.hid (bel2 HB4.out hb)
        clear hb
        clear p_0 p_1 p_2 p_3 p_4 p_5 p_6 p_7 p_8 p_9 q_0 q_1 q_2 q_3 q_4 q_5 q_6 q_7 q_8 q_9
        go_wp2
        go_ret
        exact ⟨rfl, HBZ.out⟩
      · rcases ob_ne hne with h1 | ⟨h1, h2⟩ | ⟨h1, h2, h3, h4⟩ | ⟨h1, h2, h3, h4⟩
        all_goals
          clear hne
          go_wp2_with fail
          refine (works_ok _ HE4.out).mono ?_
          rintro e wz ⟨rfl, hb⟩
          have HBZ := Lib.hid (bel2 HB4.out hb)
          clear hb
          clear p_0 p_1 p_2 p_3 p_4 p_5 p_6 p_7 p_8 p_9 q_0 q_1 q_2 q_3 q_4 q_5 q_6 q_7 q_8 q_9
          go_wp2
          go_ret
          exact ⟨rfl, HBZ.out⟩
      )

set_option maxRecDepth 1000000 in
set_option maxHeartbeats 8000000 in
theorem nRea_bad (s : ByteArray) (c a : Int) (w : World) (hs : s.size ≤ 300) (hno : NoObj s.data.toList) (he : Env w) :
    Calls Tryd.prog 8 #[.string s, .int .u8 c, .int .u8 a] w fun e w' => e = .returned (.bool true) ∧ Below w.heap.size w w' := by
  have h1 : ¬ (300 : Int) < (s.size : Int) := by omega
  have HPA := Lib.hid (parse_any s (by omega))
  rw [parse_bad' hno] at HPA
  simp only [obv, obc, ob0] at HPA
  have hArr : ∀ W, (Op.equalIn 9999 25 (.agg #[.int .i64 0, .int .u32 0, .int .i64 0, .int .u32 0, .int .i64 0, .int .u32 0, .int .i64 0, .int .u32 0]) (.agg #[.int .i64 0, .int .u32 0, .int .i64 0, .int .u32 0, .int .i64 0, .int .u32 0, .int .i64 0, .int .u32 0])).run Tryd.prog W = .ok true W := fun W => eqArr W _ _ _ _ _ _ _ _ _ _ _ _ _ _ _ _
  have HE0 := Lib.hid he
  have HB0 := Lib.hid (Below.refl w.heap.size w)
  clear he
  go_enter Tryd.func8, Tryd.ntmps8
  go_wp2_with fail
  refine (HPA.out _ HE0.out).mono ?_
  rintro e w1_ ⟨rfl, hb⟩
  obtain ⟨W1, hW⟩ : ∃ W1, (w1_.alloc (.cells (obc ob0) 27)) = W1 := ⟨_, rfl⟩
  obtain ⟨k0, hsz1, hal⟩ := one_box w1_ _ _ hW
  have hst := bel2 hb hal
  have HP_1 := Lib.hid k0
  have HE1 := Lib.hid (HE0.out.below hst)
  have HB1 := Lib.hid (bel2 HB0.out hst)
  have HW1 := Lib.hid hW
  simp only [obc, ob0] at HW1
  clear hst hW hb hal k0
  go_upto_region 4 with fail
  rw [HW1.out]
  obtain ⟨p_0, p_1, p_2, p_3, p_4, p_5, p_6, p_7, p_8, p_9⟩ := HP_1.out.ob
  simp only [ob0] at p_0 p_1 p_2 p_3 p_4 p_5 p_6 p_7 p_8 p_9
  go_wp2_with fail
  refine (works_ok _ HE1.out).mono ?_
  rintro e wz ⟨rfl, hb⟩
  have HBZ := Lib.hid (bel2 HB1.out hb)
  clear hb
  clear p_0 p_1 p_2 p_3 p_4 p_5 p_6 p_7 p_8 p_9
  go_wp2
  go_ret
  exact ⟨rfl, HBZ.out⟩

set_option maxRecDepth 1000000 in
theorem nRea_long (s : ByteArray) (c a : Int) (w : World) (_hs : ¬ s.size ≤ 300) (he : Env w) :
    Calls Tryd.prog 8 #[.string s, .int .u8 c, .int .u8 a] w fun e w' => e = .returned (.bool true) ∧ Below w.heap.size w w' := by
  have h1 : (300 : Int) < (s.size : Int) := by omega
  have HE0 := Lib.hid he
  clear he
  go_enter Tryd.func8, Tryd.ntmps8
  go_wp2_with fail
  refine (works_ok _ HE0.out).mono ?_
  rintro e wz ⟨rfl, hb⟩
  have HBZ := Lib.hid hb
  clear hb
  go_wp2
  go_ret
  exact ⟨rfl, HBZ.out⟩

theorem nRea_walk (s : ByteArray) (c a : Int) (w : World) (_hs : s.size ≤ 140737488351232) (c1 : 0 ≤ c) (c2 : c ≤ 255) (a1 : 0 ≤ a) (a2 : a ≤ 255) (he : Env w) :
    Calls Tryd.prog 8 #[.string s, .int .u8 c, .int .u8 a] w fun e w' => e = .returned (.bool true) ∧ Below w.heap.size w w' := by
  by_cases h : s.size ≤ 300
  · rcases obj_or s.data.toList with ⟨p, hp, hsp⟩ | hno
    · have hb : ((UInt8.ofNat c.toNat).toNat : Int) = c := by
        rw [UInt8.toNat_ofNat_of_lt' (by show c.toNat < 256; omega)]
        omega
      have := nRea_in s (UInt8.ofNat c.toNat) a w h a1 a2 p hp hsp he
      rw [hb] at this
      exact this
    · exact nRea_bad s c a w h hno he
  · exact nRea_long s c a w h he
end Go.Proofs.YtmbkhkijmfogcaaDoor
