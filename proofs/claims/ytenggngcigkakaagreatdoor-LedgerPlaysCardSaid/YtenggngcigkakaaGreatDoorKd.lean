/- The document's ledger: New, valid, Add, All, Of, First, Ended, Len. The document's ledger: First, Ended, Add. The document's ledger: Add. Both ledgers side by side: what LedgerPlays keeps. -/
import Derived.Test.YtenggngcigkakaaGreatDoorKc
namespace Go.Proofs.YtenggngcigkakaaGreatDoor
open Go.RowKit Go.ChangeShapes

section
variable {w w' : World} {b lo : Nat} {v : Value} {l : List Att}
theorem RefW.below (h : RefW w b v lo l) (hb : Below w.heap.size w w') : RefW w' b v lo l := ⟨h.ok, h.len, h.hb.below hb, own_below h.row hb, h.lb⟩
theorem RefW.kept (h : RefW w b v lo l) {S : Nat → Prop} (hk : Kept S w w') (h1 : ¬ S b) (h2 : ∀ g, v.ownBlock = some g → ¬ S g) : RefW w' b v lo l := ⟨h.ok, h.len, h.hb.kept hk h1, own_kept h.row hk h2, h.lb⟩
theorem RefW.cells (h : RefW w b v lo l) : ∃ p c, v = .slice p l.length c ∧ w.cell? ⟨b, 0, none⟩ = some (.bool true) ∧ w.cell? ⟨b, 1, none⟩ = some (.slice p l.length c) ∧ w.frozen? ⟨b, 1, none⟩ = false ∧ RdA w (.slice p l.length c) l := by
  have hr := RdA.of_own h.row
  obtain ⟨p, c, rfl⟩ := rd_slice hr
  exact ⟨p, c, rfl, h.hb.cell 0, h.hb.cell 1, h.hb.frozen 1, hr⟩
end
theorem rnew_ok (w : World) : Calls Tryz.prog 15 #[] w fun e w' => e = .returned (.pointer (some ⟨w.heap.size, 0, none⟩)) ∧ RefW w' w.heap.size (.slice none 0 0) w.heap.size [] ∧ Below w.heap.size w w' := by
  have HB := Lib.hid (bel_new w (.cells #[.bool true, .slice none 0 0] 81))
  have hx := Bk.new w 81 #[.bool true, .slice none 0 0]
  have HX := Lib.hid hx
  clear hx
  go_enter Tryz.func15, Tryz.ntmps15
  go_wp2
  go_ret
  exact ⟨rfl, ⟨allOk_nil, Nat.zero_le _, HX.out, World.ownsRow_nil _ _ _ _, Nat.le_refl _⟩, HB.out⟩
theorem rvalid_yes (b : Nat) (w : World) (hc : w.cell? ⟨b, 0, none⟩ = some (.bool true)) : Calls Tryz.prog 55 #[.pointer (some ⟨b, 0, none⟩)] w fun e w' => e = .returned (.bool true) ∧ w = w' := by
  go_enter Tryz.func55, Tryz.ntmps55
  go_wp2
  go_ret
  exact ⟨rfl, rfl⟩
set_option maxHeartbeats 1000000 in
theorem rall_ok (b lo : Nat) (v : Value) (l : List Att) (w : World) (h : RefW w b v lo l) : Calls Tryz.prog 32 #[.pointer (some ⟨b, 0, none⟩)] w (NewA l w) := by
  obtain ⟨j0, hj, hy0, hy1, hy2⟩ := info_parts info_att
  obtain ⟨p, c, rfl, k0, k1, _, hr⟩ := h.cells
  have hlen := h.len
  have HR := Lib.hid (hr.below (bel_new w (.cells #[] 32)))
  have HO := Lib.hid (ownA_empty w)
  have HB := Lib.hid (bel_new w (.cells #[] 32))
  have k2 := cell_stays HB.out k1
  have HK := Lib.hid k0
  cases p with
  | none =>
    have hc := hr.cap.2.2.2 rfl
    have hl0 : l.length = 0 := by have := hr.cap.2.1; omega
    have : l = [] := List.eq_nil_of_length_eq_zero hl0
    subst this
    subst hc
    clear h hr
    go_enter Tryz.func32, Tryz.ntmps32
    go_wp2_with (go_at_call 55; refine (rvalid_yes _ _ HK.out).mono ?_; rintro e w' ⟨rfl, rfl⟩)
    go_ret
    exact ⟨_, rfl, HO.out, HB.out⟩
  | some ad =>
    clear h hr
    go_enter Tryz.func32, Tryz.ntmps32
    go_wp2_with fail
    refine (rvalid_yes _ _ HK.out).mono ?_
    rintro e w' ⟨rfl, rfl⟩
    go_wp2_with (at_builtin; refine wpList_append_own _ rfl _ _ 22 rfl w.heap.size 32 j0 _ 6 48 Tryz.underlying22 hj hy0 hy1 hy2 rfl (by decide) _ 0 [] rfl HO.out ad l.length c (cls l) rfl (cls_length l) HR.out.news (cls_one l) ?c1 ?c2 ?c3 ?_)
    case c1 => unfold maxLen; omega
    case c2 => omega
    case c3 => simp
    intro v' w1 hown hgrow _
    have HV : Hid (NewA l w (.returned v') w1) := ⟨v', rfl, by simpa using hown, HB.out.grown hgrow (by simp) (fun k hk => ownA_lt HO.out k hk)⟩
    clear hown hgrow
    go_wp2
    go_ret
    exact HV.out
theorem rlen_ok (b lo : Nat) (v : Value) (l : List Att) (w : World) (h : RefW w b v lo l) : Calls Tryz.prog 30 #[.pointer (some ⟨b, 0, none⟩)] w fun e w' => e = .returned (.int .i64 l.length) ∧ Below w.heap.size w w' := by
  have H := Lib.hid h
  clear h
  go_enter Tryz.func30, Tryz.ntmps30
  go_wp2_with fail
  refine (rall_ok b lo v l w H.out).mono ?_
  rintro e w1 ⟨v1, rfl, ho, hb⟩
  obtain ⟨p, c, rfl⟩ := rd_slice (RdA.of_own ho)
  have HB := Lib.hid hb
  clear ho hb
  go_wp2
  go_ret
  exact ⟨rfl, HB.out⟩
/-! ### Of -/
set_option maxRecDepth 100000 in
set_option maxHeartbeats 4000000 in
theorem rof_ok (b lo : Nat) (v : Value) (l : List Att) (k i g : Int) (w : World) (h : RefW w b v lo l) : Calls Tryz.prog 28 #[.pointer (some ⟨b, 0, none⟩), okey k i g] w (NewA (ofL l k i g) w) := by
  have HB0 := Lib.hid (bel_new w (.cells #[.int .i64 k, .int .i64 i, .int .u32 g] 25))
  have H := Lib.hid (h.below HB0.out)
  have HO0 := Lib.hid (Bk.new w 25 #[.int .i64 k, .int .i64 i, .int .u32 g])
  obtain ⟨N, hN⟩ : ∃ N, l.length = N := ⟨_, rfl⟩
  have HN := Lib.hid hN
  have hN1 : N ≤ 10000 := by rw [← hN]; exact h.len
  clear h hN
  unfold okey
  go_enter Tryz.func28, Tryz.ntmps28
  go_wp2_with fail
  refine (rall_ok b lo v l _ H.out).mono ?_
  rintro e w1 ⟨v1, rfl, ho, hb⟩
  obtain ⟨p, c, rfl⟩ : ∃ p c, v1 = .slice p N c := by have := rd_slice (RdA.of_own ho); rw [HN.out] at this; exact this
  have HR1 := Lib.hid (RdA.of_own ho)
  have HO1 := Lib.hid (HO0.out.below hb)
  have HB1 := Lib.hid (bel2 HB0.out hb)
  clear ho hb HO0 HB0 H
  go_wp2
  go_loopw [5, 7] (fun u si wr => ∃ (q m : Nat) (pv : Option Addr) (cv : Nat), q ≤ N ∧ si = .int .i64 q ∧ u = .slice pv m cv ∧ Hid ((ofL (l.take q) k i g).length = m) ∧ Hid (wr.ownsRow w1.heap.size 32 6 (.slice pv m cv) (ofL (l.take q) k i g).length (cls (ofL (l.take q) k i g))) ∧ Hid (Below w1.heap.size w1 wr)) (fun _ si _ => N - (intOf si).toNat)
  case atStart => exact ⟨0, 0, none, 0, Nat.zero_le _, rfl, rfl, rfl, World.ownsRow_nil _ _ _ _, Below.refl _ _⟩
  case round =>
    obtain ⟨q, m, pv, cv, hqN, rfl, rfl, HM, HO, HB⟩ := hrel
    have HOX := Lib.hid (HO1.out.below HB.out)
    have HRD := Lib.hid (HR1.out.below HB.out)
    have hm1 : m ≤ 10000 := by
      have h1 := ofL_le (l.take q) k i g
      rw [HM.out, List.length_take, HN.out] at h1
      omega
    by_cases hlq : q < N
    · have hlq2 : q < l.length := by rw [HN.out]; exact hlq
      obtain ⟨gl, off, rfl, hgl, hsix⟩ := HRD.out.cell hlq2
      have HS1 := Lib.hid (ofL_take l q hlq2 k i g)
      generalize l[q] = x at *
      obtain ⟨e0, e1, e2, e3, e4, e5⟩ := hsix
      have d0 := HOX.out.cell 0
      have d1 := HOX.out.cell 1
      have d2 := HOX.out.cell 2
      clear hlq2 hgl
      by_cases h0 : x.k = k
      · by_cases h1 : x.i = i
        · by_cases h2 : x.g = g
          · have HIS : Hid (x.is k i g = true) := by rw [Hid]; unfold Att.is; rw [decide_eq_true_eq]; exact ⟨h0, h1, h2⟩
            have HOF : Hid (ofL (l.take (q + 1)) k i g = ofL (l.take q) k i g ++ [x]) := by rw [Hid, HS1.out, HIS.out, if_pos rfl]
            have HXE : Hid (x.cl.toArray = #[.int .i64 x.t, .int .i64 k, .int .i64 i, .int .u32 g, .int .i64 x.y, .int .i64 x.n]) := by rw [Hid, ← h0, ← h1, ← h2]; rfl
            rw [h0] at e1
            rw [h1] at e2
            rw [h2] at e3
            go_wp2
            go_quiet (fail)
            have HW : Hid (Below wr.heap.size wr (wr.drewN nq)) := bel_drewN (Below.refl _ _) _
            generalize wr.drewN nq = W2 at *
            have y0 := cell_stays HW.out e0
            have y1 := cell_stays HW.out e1
            have y2 := cell_stays HW.out e2
            have y3 := cell_stays HW.out e3
            have y4 := cell_stays HW.out e4
            have y5 := cell_stays HW.out e5
            have HB2 := Lib.hid (bel2 HB.out HW.out)
            have HO2 := Lib.hid (own_below HO.out HW.out)
            clear e0 e1 e2 e3 e4 e5 d0 d1 d2 h0 h1 h2
            have hx1 : Bk (W2.alloc (.cells #[.int .i64 x.t, .int .i64 k, .int .i64 i, .int .u32 g, .int .i64 x.y, .int .i64 x.n] 32)) W2.heap.size 32 x.cl.toArray := by rw [HXE.out]; exact Bk.new W2 _ _
            have hbw := bel_new W2 (.cells #[.int .i64 x.t, .int .i64 k, .int .i64 i, .int .u32 g, .int .i64 x.y, .int .i64 x.n] 32)
            obtain ⟨p8, c8, w8, hr8, ho8, hk8⟩ := app_one HM.out (own_below HO2.out hbw) hx1 (by rw [HM.out]; omega) (Nat.le_trans HB2.out.size hbw.size)
            have HB8 := Lib.hid ((bel2 HB2.out hbw).trans (hk8.below (Nat.le_trans HB2.out.size hbw.size) (fun b e => (HO2.out.lt b (by rw [e]; rfl)).1)))
            have HO8 := Lib.hid ho8
            clear hbw hx1 ho8 hk8
            go_wp2_with (at_builtin; refine wpList_append_j rfl _ _ _ _ rfl _ _ rfl rfl _ _ hr8 ?_)
            go_roundw
            case rel => exact ⟨q + 1, m + 1, p8, c8, by omega, by go_num, rfl, by rw [Hid, HOF.out, List.length_append, HM.out]; rfl, by rw [Hid, HOF.out]; exact HO8.out, HB8.out⟩
            case measure => simp [intOf]; omega
          · have hbf : (x.g == g) = false := by rw [beq_eq_false_iff_ne]; exact h2
            have HOF : Hid (ofL (l.take (q + 1)) k i g = ofL (l.take q) k i g) := by rw [Hid, HS1.out, show x.is k i g = false from (by unfold Att.is; rw [decide_eq_false_iff_not]; rintro ⟨k1, k2, k3⟩; exact h2 k3), if_neg (by decide), List.append_nil]
            rw [h0] at e1
            rw [h1] at e2
            go_wp2
            go_quiet (fail)
            go_wp2
            go_roundw
            case rel => exact ⟨q + 1, m, pv, cv, by omega, by go_num, rfl, by rw [Hid, HOF.out]; exact HM.out, by rw [Hid, HOF.out]; exact own_below HO.out (bel_drewN (Below.refl _ _) _), bel_drewN HB.out _⟩
            case measure => simp [intOf]; omega
        · have hbf : (x.i == i) = false := by rw [beq_eq_false_iff_ne]; exact h1
          have HOF : Hid (ofL (l.take (q + 1)) k i g = ofL (l.take q) k i g) := by rw [Hid, HS1.out, show x.is k i g = false from (by unfold Att.is; rw [decide_eq_false_iff_not]; rintro ⟨k1, k2, k3⟩; exact h1 k2), if_neg (by decide), List.append_nil]
          rw [h0] at e1
          go_wp2
          go_quiet (fail)
          go_wp2
          go_roundw
          case rel => exact ⟨q + 1, m, pv, cv, by omega, by go_num, rfl, by rw [Hid, HOF.out]; exact HM.out, by rw [Hid, HOF.out]; exact own_below HO.out (bel_drewN (Below.refl _ _) _), bel_drewN HB.out _⟩
          case measure => simp [intOf]; omega
      · have hbf : (x.k == k) = false := by rw [beq_eq_false_iff_ne]; exact h0
        have HOF : Hid (ofL (l.take (q + 1)) k i g = ofL (l.take q) k i g) := by rw [Hid, HS1.out, show x.is k i g = false from (by unfold Att.is; rw [decide_eq_false_iff_not]; rintro ⟨k1, k2, k3⟩; exact h0 k1), if_neg (by decide), List.append_nil]
        go_wp2
        go_quiet (fail)
        go_wp2
        go_roundw
        case rel => exact ⟨q + 1, m, pv, cv, by omega, by go_num, rfl, by rw [Hid, HOF.out]; exact HM.out, by rw [Hid, HOF.out]; exact own_below HO.out (bel_drewN (Below.refl _ _) _), bel_drewN HB.out _⟩
        case measure => simp [intOf]; omega
    · obtain rfl : q = N := by omega
      have htk : l.take q = l := by rw [← HN.out, List.take_length]
      rw [htk] at HO
      clear hlq
      go_wp2
      go_ret
      exact ⟨_, rfl, own_lower HO.out HB1.out.size, HB1.out.trans (HB.out.mono HB1.out.size)⟩
end Go.Proofs.YtenggngcigkakaaGreatDoor

namespace Go.Proofs.YtenggngcigkakaaGreatDoor
open Go.RowKit Go.ChangeShapes

theorem rof_ok0 (b lo : Nat) (v : Value) (l : List Att) (k i g : Int) (M : List Att) (hM : ofL l k i g = M) (w : World) (h : RefW w b v lo l) : Calls Tryz.prog 28 #[.pointer (some ⟨b, 0, none⟩), .agg #[.int .i64 k, .int .i64 i, .int .u32 g]] w (NewA M w) := by rw [← hM]; exact rof_ok b lo v l k i g w h
set_option maxRecDepth 100000 in
set_option maxHeartbeats 4000000 in
theorem rfirst_ok (b lo : Nat) (v : Value) (l : List Att) (k i g : Int) (w : World) (h : RefW w b v lo l) : Calls Tryz.prog 23 #[.pointer (some ⟨b, 0, none⟩), okey k i g] w (FirstV (ofL l k i g) w) := by
  obtain ⟨M, hM⟩ : ∃ M, ofL l k i g = M := ⟨_, rfl⟩
  have HOF : Hid (∀ W, RefW W b v lo l → Calls Tryz.prog 28 #[.pointer (some ⟨b, 0, none⟩), .agg #[.int .i64 k, .int .i64 i, .int .u32 g]] W (NewA M W)) := fun W hW => rof_ok0 b lo v l k i g M hM W hW
  rw [hM]
  clear hM
  have hb2 := bel2 (bel_new w (.cells #[.int .i64 k, .int .i64 i, .int .u32 g] 25)) (bel_new _ (.cells #[.int .i64 0, .int .i64 0, .int .i64 0, .int .u32 0, .int .i64 0, .int .i64 0] 32))
  have H := Lib.hid (h.below hb2)
  have HB2 := Lib.hid hb2
  have hz := Bk.new (w.alloc (.cells #[.int .i64 k, .int .i64 i, .int .u32 g] 25)) 32 #[.int .i64 0, .int .i64 0, .int .i64 0, .int .u32 0, .int .i64 0, .int .i64 0]
  rw [size_up] at hz
  have HZ := Lib.hid hz
  clear h hb2 hz
  unfold okey
  go_enter Tryz.func23, Tryz.ntmps23
  go_wp2_with fail
  refine (HOF.out _ H.out).mono ?_
  rintro e w1 ⟨v1, rfl, ho, hb⟩
  have HB := Lib.hid (bel2 HB2.out hb)
  have HZ1 := Lib.hid (HZ.out.below hb)
  have HR := Lib.hid (RdA.of_own ho)
  have e0 := HZ1.out.cell 0
  have e1 := HZ1.out.cell 1
  have e2 := HZ1.out.cell 2
  have e3 := HZ1.out.cell 3
  have e4 := HZ1.out.cell 4
  have e5 := HZ1.out.cell 5
  have z0 := HZ1.out.frozen 0
  have z1 := HZ1.out.frozen 1
  have z2 := HZ1.out.frozen 2
  have z3 := HZ1.out.frozen 3
  have z4 := HZ1.out.frozen 4
  have z5 := HZ1.out.frozen 5
  have hz1 : w.heap.size ≤ w.heap.size + 1 := Nat.le_succ _
  cases M with
  | nil =>
    obtain ⟨p, c, rfl⟩ : ∃ p c, v1 = .slice p 0 c := rd_slice HR.out
    clear ho hb
    go_wp2
    refine bodyPost_ret (v := .tuple #[.agg #[.int .i64 0, .int .i64 0, .int .i64 0, .int .u32 0, .int .i64 0, .int .i64 0], .bool false]) ?_ rfl ⟨rfl, ?_⟩
    · simp [results, Tryz.results23, go_sem, e0, e1, e2, e3, e4, e5]
    · exact put6_below (a := att0) HB.out hz1
  | cons z R =>
    obtain ⟨p, m, c, rfl⟩ : ∃ p m c, v1 = .slice p (m + 1) c := by obtain ⟨p, c, h⟩ := rd_slice HR.out; exact ⟨p, R.length, c, h⟩
    obtain ⟨g8, o8, rfl, hg8, hs8⟩ := HR.out.cell (j := 0) (by simp)
    simp only [Nat.zero_mul, Nat.add_zero, List.getElem_cons_zero] at hs8
    obtain ⟨c0, c1, c2, c3, c4, c5⟩ := hs8
    clear ho hb hg8
    go_wp2
    refine bodyPost_ret (v := .tuple #[.agg #[.int .i64 z.t, .int .i64 z.k, .int .i64 z.i, .int .u32 z.g, .int .i64 z.y, .int .i64 z.n], .bool true]) ?_ rfl ⟨rfl, ?_⟩
    · simp [results, Tryz.results23, go_sem, e0, e1, e2, e3, e4, e5]
    · exact put6_below (a := z) HB.out hz1
theorem find_mid (A : List Att) (x : Att) (B : List Att) (h : ∀ y ∈ A, y.n = 2) (hx : x.n ≠ 2) : (A ++ x :: B).find? (fun a => decide (a.n ≠ 2)) = some x := by
  rw [List.find?_append, List.find?_eq_none.2 (fun y hy => by simp [h y hy])]
  simp [hx]
theorem end_hit {M : List Att} {j : Nat} (hj : j < M.length) (h : ∀ x ∈ M.take j, x.n = 2) (hx : M[j].n ≠ 2) : endOf M = M[j].n ∧ isEnd M = true := by
  have e := find_mid (M.take j) M[j] (M.drop (j + 1)) h hx
  rw [← List.drop_eq_getElem_cons hj, List.take_append_drop] at e
  unfold endOf isEnd
  rw [e]; exact ⟨rfl, rfl⟩
theorem end_none {M : List Att} (h : ∀ x ∈ M, x.n = 2) : endOf M = 0 ∧ isEnd M = false := by
  have e : M.find? (fun a => decide (a.n ≠ 2)) = none := List.find?_eq_none.2 (fun x hx => by simp [h x hx])
  unfold endOf isEnd
  rw [e]; exact ⟨rfl, rfl⟩
set_option maxRecDepth 100000 in
set_option maxHeartbeats 4000000 in
theorem rended_ok (b lo : Nat) (v : Value) (l : List Att) (k i g : Int) (w : World) (h : RefW w b v lo l) : Calls Tryz.prog 25 #[.pointer (some ⟨b, 0, none⟩), okey k i g] w (EndV (ofL l k i g) w) := by
  obtain ⟨M, hM⟩ : ∃ M, ofL l k i g = M := ⟨_, rfl⟩
  have HOF : Hid (∀ W, RefW W b v lo l → Calls Tryz.prog 28 #[.pointer (some ⟨b, 0, none⟩), .agg #[.int .i64 k, .int .i64 i, .int .u32 g]] W (NewA M W)) := fun W hW => rof_ok0 b lo v l k i g M hM W hW
  have hMl : M.length ≤ 10000 := by rw [← hM]; exact Nat.le_trans (ofL_le _ _ _ _) h.len
  rw [hM]
  obtain ⟨N, hN⟩ : ∃ N, M.length = N := ⟨_, rfl⟩
  have HN := Lib.hid hN
  rw [hN] at hMl
  have HB0 := Lib.hid (bel_new w (.cells #[.int .i64 k, .int .i64 i, .int .u32 g] 25))
  have H := Lib.hid (h.below HB0.out)
  clear h hM hN
  unfold okey
  go_enter Tryz.func25, Tryz.ntmps25
  go_wp2_with fail
  refine (HOF.out _ H.out).mono ?_
  rintro e w1 ⟨v1, rfl, ho, hb⟩
  obtain ⟨p, c, rfl⟩ : ∃ p c, v1 = .slice p N c := by have := rd_slice (RdA.of_own ho); rw [HN.out] at this; exact this
  have HB := Lib.hid (bel2 HB0.out hb)
  have HR := Lib.hid (RdA.of_own ho)
  clear ho hb
  go_wp2
  go_loopw [7] (fun si wr => ∃ q : Nat, q ≤ N ∧ si = .int .i64 q ∧ Hid (∀ x ∈ M.take q, x.n = 2) ∧ Hid (Below w1.heap.size w1 wr)) (fun si _ => N - (intOf si).toNat)
  case atStart => exact ⟨0, Nat.zero_le _, rfl, fun x hx => by simp at hx, Below.refl _ _⟩
  case round =>
    obtain ⟨q, hqN, rfl, H2, HB3⟩ := hrel
    by_cases hlq : q < N
    · have hlq2 : q < M.length := by rw [HN.out]; exact hlq
      obtain ⟨gl, off, rfl, hgl, hsix⟩ := (HR.out.below HB3.out).cell hlq2
      have HTK := Lib.hid (List.take_succ_eq_append_getElem hlq2)
      have HEH : Hid (M[q].n ≠ 2 → endOf M = M[q].n ∧ isEnd M = true) := fun hx => end_hit hlq2 H2.out hx
      generalize M[q] = x at *
      obtain ⟨c0, c1, c2, c3, c4, c5⟩ := hsix
      by_cases hx : x.n = 2
      · have HX := Lib.hid hx
        rw [hx] at c5
        clear hx
        go_wp2
        go_roundw
        case rel => exact ⟨q + 1, by omega, by go_num, fun y hy => by
          rw [HTK.out] at hy
          rcases List.mem_append.1 hy with hy | hy
          · exact H2.out y hy
          · obtain rfl := List.mem_singleton.1 hy
            exact HX.out, HB3.out⟩
        case measure => simp [intOf]; omega
      · have HE := Lib.hid (HEH.out hx)
        have hxb : (x.n == 2) = false := by rw [beq_eq_false_iff_ne]; exact hx
        go_wp2
        go_ret2
        exact ⟨by rw [HE.out.1, HE.out.2]; rfl, HB.out.trans (HB3.out.mono HB.out.size)⟩
    · obtain rfl : q = N := by omega
      have HE : Hid (endOf M = 0 ∧ isEnd M = false) := end_none (fun x hx => H2.out x (by rw [List.take_of_length_le (by rw [HN.out]; exact Nat.le_refl _)]; exact hx))
      clear hlq
      go_wp2
      go_ret2
      exact ⟨by rw [HE.out.1, HE.out.2]; rfl, HB.out.trans (HB3.out.mono HB.out.size)⟩
end Go.Proofs.YtenggngcigkakaaGreatDoor

namespace Go.Proofs.YtenggngcigkakaaGreatDoor
open Go.RowKit Go.ChangeShapes

/-- What the document's Add gives. -/
def RAddV (b lo : Nat) (v : Value) (l : List Att) (a : Att) (w : World) (e : Ending) (w' : World) : Prop :=
  e = .returned (.int .i64 (addE l a)) ∧ ∃ v', RefW w' b v' lo (addL l a) ∧ Kept (fun g => g = b ∨ v.ownBlock = some g) w w' ∧ ∀ g, v'.ownBlock = some g → v.ownBlock = some g ∨ w.heap.size ≤ g
theorem raddV_same {b lo : Nat} {v : Value} {l : List Att} {a : Att} {w w' : World} {E : Int} (h : RefW w b v lo l) (hE : addE l a = E) (h0 : E ≠ 0) (hb : Below w.heap.size w w') : RAddV b lo v l a w (.returned (.int .i64 E)) w' :=
  ⟨by rw [hE], v, by rw [addL_no (by rw [hE]; exact h0)]; exact h.below hb, (Kept.of_below (S := fun _ => False) hb).mono fun _ _ e => e.elim, fun _ hg => .inl hg⟩
theorem raddV_put {b lo : Nat} {p : Option Addr} {n c : Nat} {l : List Att} {a : Att} {w W D : World} {p8 : Option Addr} {n8 c8 : Nat} (h : RefW w b (.slice p n c) lo l) (ha : a.Ok) (hE : addE l a = 0) (hl : l.length < 10000) (hb : Below w.heap.size w W) (ho : D.ownsRow lo 32 6 (.slice p8 n8 c8) (l ++ [a]).length (cls (l ++ [a]))) (hk : Kept (fun k => p = some ⟨k, 0, none⟩) W D) (hnew : ∀ g, (Value.slice p8 n8 c8).ownBlock = some g → (Value.slice p n c).ownBlock = some g ∨ w.heap.size ≤ g) :
    RAddV b lo (.slice p n c) l a w (.returned (.int .i64 0)) (D.setCell ⟨b, 1, none⟩ (.slice p8 n8 c8)) := by
  have hbD : Bk D b 81 #[.bool true, .slice p n c] := (h.hb.below hb).kept hk (fun e => absurd (own_type h.row (by rw [e]; rfl) h.hb) (by decide))
  refine ⟨by rw [hE], .slice p8 n8 c8, ?_, ?_, hnew⟩
  · rw [addL_ok hE]
    refine ⟨allOk_append.2 ⟨h.ok, fun y hy => by obtain rfl := List.mem_singleton.1 hy; exact ha⟩, by rw [List.length_append]; show l.length + 1 ≤ 10000; omega, hbD.put 1 _, own_same ho fun g hg => ?_, h.lb⟩
    exact Below.heap_setCell _ _ _ _ (fun e => by
      have e' : g = b := e.symm ▸ rfl
      subst e'
      exact absurd (own_type ho hg hbD) (by decide))
  · have k1 : Kept (fun g => g = b ∨ (Value.slice p n c).ownBlock = some g) w W := (Kept.of_below (S := fun _ => False) hb).mono fun _ _ e => e.elim
    have k2 : Kept (fun g => g = b ∨ (Value.slice p n c).ownBlock = some g) W D := hk.mono fun g _ e => .inr (by rw [e]; rfl)
    exact (k1.trans k2).put (p := ⟨b, 1, none⟩) (.inr (.inl rfl)) _
set_option maxRecDepth 100000 in
set_option maxHeartbeats 4000000 in
theorem radd_ok (b lo : Nat) (v : Value) (l : List Att) (a : Att) (w : World) (h : RefW w b v lo l) (hr : a.Rg) (hlo : lo ≤ w.heap.size) : Calls Tryz.prog 21 #[.pointer (some ⟨b, 0, none⟩), a.val] w (RAddV b lo v l a w) := by
  have H := Lib.hid h
  have HR := Lib.hid hr
  have HB0 := Lib.hid (bel_new w (.cells #[.int .i64 a.t, .int .i64 a.k, .int .i64 a.i, .int .u32 a.g, .int .i64 a.y, .int .i64 a.n] 32))
  have hbox : Bk (w.alloc (.cells #[.int .i64 a.t, .int .i64 a.k, .int .i64 a.i, .int .u32 a.g, .int .i64 a.y, .int .i64 a.n] 32)) w.heap.size 32 a.cl.toArray := Bk.new w _ _
  have HBX := Lib.hid hbox
  have HC0 := Lib.hid ((h.below HB0.out).hb.cell 0)
  obtain ⟨c0, c1, c2, c3, c4, c5⟩ := six_new hbox
  simp only [Nat.zero_add] at c0 c1 c2 c3 c4 c5
  have hvl : a.val = .agg #[.int .i64 a.t, .int .i64 a.k, .int .i64 a.i, .int .u32 a.g, .int .i64 a.y, .int .i64 a.n] := rfl
  rw [hvl]
  clear h hr hbox hvl
  go_enter Tryz.func21, Tryz.ntmps21
  go_wp2_with fail
  refine (rvalid_yes _ _ HC0.out).mono ?_
  rintro e w' ⟨rfl, rfl⟩
  go_wp2_with fail
  refine (rchk_att a HR.out _).mono ?_
  rintro e w1 ⟨hee, hb1⟩
  have HB1 := Lib.hid (bel2 HB0.out hb1)
  rcases a.ok_or with hok | hno
  · rw [chkE_ok hok] at hee
    subst hee
    have HOK := Lib.hid hok
    have HL1 := Lib.hid (H.out.below HB1.out)
    obtain ⟨p, c, rfl, _, k1, k2, hrd⟩ := HL1.out.cells
    have hlen := H.out.len
    obtain ⟨d0, d1, d2, d3, d4, d5⟩ := six_new (HBX.out.below hb1)
    simp only [Nat.zero_add] at d0 d1 d2 d3 d4 d5
    obtain ⟨_, hcap, hcm, _⟩ := hrd.cap
    have HRD := Lib.hid hrd
    obtain ⟨N, hN⟩ : ∃ N, l.length = N := ⟨_, rfl⟩
    have HN := Lib.hid hN
    have HAPP : Hid (∀ W, Below w1.heap.size w1 W → l.length < 10000 → ∃ p8 c8 D, (Builtin.append_ #[22, 22] 22 #[.slice p N c, .slice (some ⟨W.heap.size, 0, none⟩) 1 1]).run Tryz.prog (W.alloc (.cells #[.int .i64 a.t, .int .i64 a.k, .int .i64 a.i, .int .u32 a.g, .int .i64 a.y, .int .i64 a.n] 32)).drew = .ok (.slice p8 (N + 1) c8) D ∧ D.cell? ⟨b, 1, none⟩ = some (.slice p N c) ∧ D.frozen? ⟨b, 1, none⟩ = false ∧ (addE l a = 0 → RAddV b lo (.slice p l.length c) l a w (.returned (.int .i64 0)) (D.setCell ⟨b, 1, none⟩ (.slice p8 (N + 1) c8)))) := fun W hW hl => by
      have hbW : Below w1.heap.size w1 (W.alloc (.cells #[.int .i64 a.t, .int .i64 a.k, .int .i64 a.i, .int .u32 a.g, .int .i64 a.y, .int .i64 a.n] 32)).drew := bel_drew (bel2 hW (bel_new _ _))
      have hrow := own_below HL1.out.row hbW
      rw [hN] at hrow
      have hx : Bk (W.alloc (.cells #[.int .i64 a.t, .int .i64 a.k, .int .i64 a.i, .int .u32 a.g, .int .i64 a.y, .int .i64 a.n] 32)).drew W.heap.size 32 a.cl.toArray := Bk.new W _ _
      have hrow2 : (W.alloc (.cells #[.int .i64 a.t, .int .i64 a.k, .int .i64 a.i, .int .u32 a.g, .int .i64 a.y, .int .i64 a.n] 32)).drew.ownsRow lo 32 6 (.slice p N c) l.length (cls l) := by rw [hN]; exact hrow
      obtain ⟨j0, hj, hy0, hy1, hy2⟩ := info_parts info_att
      obtain ⟨v', D, hrun, hown, hgr, _, hloc⟩ := run_append_own_at (P := Tryz.prog) (w := (W.alloc (.cells #[.int .i64 a.t, .int .i64 a.k, .int .i64 a.i, .int .u32 a.g, .int .i64 a.y, .int .i64 a.n] 32)).drew) lo 22 22 32 j0 _ 6 48 Tryz.underlying22 hj hy0 hy1 hy2 rfl (by decide) (.slice p N c) N (cls l) hrow
        ⟨W.heap.size, 0, none⟩ 1 1 a.cl rfl (fun j u hj => by
          have e : (⟨W.heap.size, 0, none⟩ : Addr).add j = ⟨W.heap.size, j, none⟩ := by unfold Addr.add; split <;> simp_all
          rw [e, hx.cell]
          simpa using hj) (cl_one a) (by unfold maxLen; omega) (by omega) (Nat.le_trans hlo (Nat.le_trans HB1.out.size hbW.size))
      have ho2 : D.ownsRow lo 32 6 v' (l ++ [a]).length (cls (l ++ [a])) := by
        rw [cls_snoc, List.length_append, hN]; exact hown
      obtain ⟨p8, c8, rfl⟩ := rd_slice (RdA.of_own ho2)
      have e1 : (l ++ [a]).length = N + 1 := by rw [List.length_append, hN]; rfl
      rw [e1] at hrun ho2 hloc
      have hkD : Kept (fun k => p = some ⟨k, 0, none⟩) (W.alloc (.cells #[.int .i64 a.t, .int .i64 a.k, .int .i64 a.i, .int .u32 a.g, .int .i64 a.y, .int .i64 a.n] 32)).drew D := (Kept.of_grown hgr).mono fun k _ e => by
        obtain ⟨c2, h2⟩ := own_form hrow e.symm
        injection h2
      have hbD : Bk D b 81 #[.bool true, .slice p l.length c] := (HL1.out.hb.below hbW).kept hkD (fun e => absurd (own_type H.out.row (by rw [e]; rfl) H.out.hb) (by decide))
      refine ⟨p8, c8, D, hrun, by have := hbD.cell 1; rw [hN] at this; exact this, hbD.frozen 1, fun hE => ?_⟩
      refine raddV_put H.out HOK.out hE hl (bel2 HB1.out hbW) (by rw [e1]; exact ho2) hkD (fun g hg => ?_)
      rcases hloc with h | h
      · rw [hN]; exact .inl (h ▸ hg)
      · rw [h] at hg
        have hg2 : W.heap.size + 1 = g := by
          have := Option.some.inj hg
          rw [← this]
          show W.heap.size + 1 = (W.alloc _).heap.size
          rw [size_up]
        have := hW.size
        have := HB1.out.size
        exact .inr (by omega)
    rw [hN] at k1 hcap hlen
    clear hok hb1 c0 c1 c2 c3 c4 c5 hN hrd
    rcases Nat.eq_zero_or_pos N with hl0 | hl0
    · subst hl0
      have HEE : Hid (addE l a = 0) := by
        have : l = [] := List.eq_nil_of_length_eq_zero HN.out
        rw [Hid, this]; exact addE_none HOK.out
      go_wp2
      go_quiet (fail)
      have HW : Hid (Below w1.heap.size w1 (w1.drewN nq)) := bel_drewN (Below.refl _ _) _
      generalize w1.drewN nq = W2 at *
      have y1 := cell_stays HW.out k1
      have y1b := cell_stays (bel_new W2 (.cells #[.int .i64 a.t, .int .i64 a.k, .int .i64 a.i, .int .u32 a.g, .int .i64 a.y, .int .i64 a.n] 32)) y1
      have e0 := cell_stays HW.out d0
      have e1 := cell_stays HW.out d1
      have e2 := cell_stays HW.out d2
      have e3 := cell_stays HW.out d3
      have e4 := cell_stays HW.out d4
      have e5 := cell_stays HW.out d5
      obtain ⟨p8, c8, D, hr8, hD1, hDf, hfin⟩ := HAPP.out W2 HW.out (by have := HN.out; omega)
      have HFIN := Lib.hid (hfin HEE.out)
      clear k1 k2 d0 d1 d2 d3 d4 d5 hfin
      go_wp2
      go_region_law (refine step_append_w (by first | rfl | kernel_rfl) (some 48) (by rfl) _ _ _ _ (by rfl) _ _ (by rfl) (by rfl) _ _ hr8 ?_)
      all_goals
        go_wp2
        go_ret
        exact HFIN.out
    · obtain ⟨j, rfl⟩ : ∃ j, N = j + 1 := ⟨N - 1, by omega⟩
      obtain ⟨g, off, rfl, hg, q0, q1⟩ := HRD.out.cell (j := j) (by have := HN.out; omega)
      clear q1 hg
      have HX : Hid (¬ a.t < (l[j]'(by have := HN.out; omega)).t → j + 1 < 10000 → addE l a = 0) := fun h h2 => addE_late HN.out (by rw [HN.out]; exact h2) HOK.out (by omega)
      have HY : Hid (a.t < (l[j]'(by have := HN.out; omega)).t → addE l a = 8) := fun h => addE_early HN.out HOK.out h
      have HZ : Hid (¬ a.t < (l[j]'(by have := HN.out; omega)).t → j + 1 = 10000 → addE l a = 4) := fun h h2 => addE_full HOK.out (by
        rintro ⟨z, hz, hlt⟩
        rw [last_at HN.out] at hz
        obtain rfl := Option.some.inj hz
        exact h hlt) (by rw [HN.out]; omega)
      generalize (l[j]'(by have := HN.out; omega)).t = z at *
      have hj1 : j + 1 ≤ 10000 := hlen
      clear hl0
      by_cases hlt : a.t < z
      · have HE8 := Lib.hid (HY.out hlt)
        go_wp2
        go_quiet (fail)
        go_wp2
        go_ret
        exact raddV_same H.out HE8.out (by decide) (bel2 HB1.out (bel_drewN (Below.refl _ _) _))
      · by_cases hful : j + 1 = 10000
        · have HE4 := Lib.hid (HZ.out hlt hful)
          have hI : ((10000 : Int) ≤ (j : Int) + 1) = True := eq_true (by omega)
          have hjj : j ≤ 9999 := by omega
          clear hful hlen
          go_wp2
          go_quiet (fail)
          go_wp2
          go_ret
          exact raddV_same H.out HE4.out (by decide) (bel2 HB1.out (bel_drewN (Below.refl _ _) _))
        · have HEE := Lib.hid (HX.out hlt (by omega))
          have hI : ((10000 : Int) ≤ (j : Int) + 1) = False := eq_false (by omega)
          have hjj : j < 9999 := by omega
          clear hful hlen
          go_wp2
          go_quiet (fail)
          have HW : Hid (Below w1.heap.size w1 (w1.drewN nq)) := bel_drewN (Below.refl _ _) _
          generalize w1.drewN nq = W2 at *
          have y1 := cell_stays HW.out k1
          have y1b := cell_stays (bel_new W2 (.cells #[.int .i64 a.t, .int .i64 a.k, .int .i64 a.i, .int .u32 a.g, .int .i64 a.y, .int .i64 a.n] 32)) y1
          have e0 := cell_stays HW.out d0
          have e1 := cell_stays HW.out d1
          have e2 := cell_stays HW.out d2
          have e3 := cell_stays HW.out d3
          have e4 := cell_stays HW.out d4
          have e5 := cell_stays HW.out d5
          obtain ⟨p8, c8, D, hr8, hD1, hDf, hfin⟩ := HAPP.out W2 HW.out (by have := HN.out; omega)
          have HFIN := Lib.hid (hfin HEE.out)
          clear k1 k2 d0 d1 d2 d3 d4 d5 hfin
          go_wp2
          go_region_law (refine step_append_w (by first | rfl | kernel_rfl) (some 48) (by rfl) _ _ _ _ (by rfl) _ _ (by rfl) (by rfl) _ _ hr8 ?_)
          all_goals
            go_wp2
            go_ret
            exact HFIN.out
  · rw [chkE_bad hno] at hee
    subst hee
    have hE : addE l a = 2 := addE_arg hno
    clear hno
    go_wp2
    go_ret
    exact raddV_same H.out hE (by decide) HB1.out
end Go.Proofs.YtenggngcigkakaaGreatDoor

namespace Go.Proofs.YtenggngcigkakaaGreatDoor
open Go.RowKit Go.ChangeShapes

/-- The attempts that ledgers have behind these calls of Add. -/
noncomputable def plays (l : List Att) : List Att := l.foldl addL []
theorem plays_take (l : List Att) (j : Nat) (h : j < l.length) : plays (l.take (j + 1)) = addL (plays (l.take j)) l[j] := by
  unfold plays
  rw [List.take_succ_eq_append_getElem h, List.foldl_append]
  rfl
/-- The program's ledger, which has L, beside the document's, which has M. -/
structure PlW (w W : World) (b bk lo rb : Nat) (rv : Value) (rlo : Nat) (L M : List Att) : Prop where
  led : LedW W b bk lo L
  ref : RefW W rb rv rlo M
  dis : ∀ g, rv.ownBlock = some g → ¬ Foot W bk g
  nrb : ¬ Foot W bk rb
  lob : w.heap.size ≤ lo
  rlob : w.heap.size ≤ rlo
  bel : Below w.heap.size w W
section
variable {w W W' : World} {b bk lo rb rlo : Nat} {rv : Value} {L M : List Att}
theorem PlW.below (h : PlW w W b bk lo rb rv rlo L M) (hb : Below W.heap.size W W') : PlW w W' b bk lo rb rv rlo L M :=
  ⟨(h.led.below hb).1, h.ref.below hb, fun g hg hf => h.dis g hg (((h.led.below hb).2 g).1 hf), fun hf => h.nrb (((h.led.below hb).2 _).1 hf), h.lob, h.rlob, bel2 h.bel hb⟩
theorem PlW.lt_ref (h : PlW w W b bk lo rb rv rlo L M) : rb < W.heap.size ∧ ∀ g, rv.ownBlock = some g → rlo ≤ g ∧ g < W.heap.size := ⟨h.ref.hb.lt, fun g hg => h.ref.row.lt g hg⟩
theorem PlW.addA {L' : List Att} (h : PlW w W b bk lo rb rv rlo L M) (hl : LedW W' b bk lo L') (hk : Kept (Foot W bk) W W') (hf : ∀ g, Foot W' bk g → Foot W bk g ∨ W.heap.size ≤ g) : PlW w W' b bk lo rb rv rlo L' M :=
  ⟨hl, h.ref.kept hk h.nrb h.dis, fun g hg hfo => by
    rcases hf g hfo with e | e
    · exact h.dis g hg e
    · have := (h.lt_ref.2 g hg).2; omega, fun hfo => by
    rcases hf _ hfo with e | e
    · exact h.nrb e
    · have := h.lt_ref.1; omega, h.lob, h.rlob, h.bel.trans (hk.below h.bel.size (fun g hg => Nat.le_trans h.lob (h.led.foot_le hg).1))⟩
theorem PlW.addB {M' : List Att} {rv' : Value} (h : PlW w W b bk lo rb rv rlo L M) (hl : RefW W' rb rv' rlo M') (hk : Kept (fun g => g = rb ∨ rv.ownBlock = some g) W W') (hf : ∀ g, rv'.ownBlock = some g → rv.ownBlock = some g ∨ W.heap.size ≤ g) : PlW w W' b bk lo rb rv' rlo L M' := by
  obtain ⟨h1, h2⟩ := h.led.kept hk (fun e => by
    rcases e with e | e
    · subst e; exact absurd (h.led.hb.uniq h.ref.hb).1 (by decide)
    · exact absurd (own_type h.ref.row e h.led.hb) (by decide)) (fun g hg e => by
    rcases e with e | e
    · subst e; exact h.nrb hg
    · exact h.dis g e hg)
  refine ⟨h1, hl, fun g hg hfo => ?_, fun hfo => h.nrb ((h2 _).1 hfo), h.lob, h.rlob, h.bel.trans (hk.below h.bel.size (fun g e => ?_))⟩
  · rcases hf g hg with e | e
    · exact h.dis g e ((h2 g).1 hfo)
    · have := (h.led.foot_le ((h2 g).1 hfo)).2; omega
  · rcases e with e | e
    · subst e; exact Nat.le_trans h.rlob h.ref.lb
    · exact Nat.le_trans h.rlob (h.lt_ref.2 g e).1
/-- The copy goes on, the old one apart from it. -/
theorem PlW.copy {W5 W6 : World} {b' bk' : Nat} (h : PlW w W b bk lo rb rv rlo L M) (hc : LedW W5 b' bk' W.heap.size L) (hb' : W.heap.size ≤ b') (hb5 : Below W.heap.size W W5) (hk : Kept (Foot W5 bk) W5 W6) : PlW w W6 b' bk' W.heap.size rb rv rlo L M := by
  have h5 := h.below hb5
  have hft : ∀ g, Foot W5 bk g → g < W.heap.size := fun g hg => (h.led.foot_le (((h.led.below hb5).2 g).1 hg)).2
  obtain ⟨h1, h2⟩ := hc.kept hk (fun e => by have := hft _ e; omega) (fun g hg e => by have h3 := hft _ e; have h4 := (hc.foot_le hg).1; omega)
  refine ⟨h1, h5.ref.kept hk h5.nrb h5.dis, fun g hg hfo => ?_, fun hfo => ?_, h.bel.size, h.rlob, h5.bel.trans (hk.below h5.bel.size (fun g hg => Nat.le_trans h.lob (h5.led.foot_le hg).1))⟩
  · have h3 := (h.lt_ref.2 g hg).2
    have h4 := (hc.foot_le ((h2 g).1 hfo)).1
    omega
  · have h3 := h.lt_ref.1
    have h4 := (hc.foot_le ((h2 _).1 hfo)).1
    omega
end
end Go.Proofs.YtenggngcigkakaaGreatDoor
