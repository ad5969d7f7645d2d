/- The contract of the model's turn, where a reference is stored. -/
import Derived.Test.YtfnhkapbfgofkaaWq
import Derived.Test.YtfnhkapbfgofkaaWl
import Derived.Test.YtfnhkapbfgofkaaWr
namespace Go.Proofs.Ytfnhkapbfgofkaa
open Go.RowKit

theorem fld_ok {o : Ob} (h : Poss o) {j : Nat} (hj : (j : Int) < o.n) : j < o.flds.length := by
  have := flds_len h
  omega
set_option maxHeartbeats 8000000 in
set_option maxRecDepth 100000 in
theorem turn_store {w0 w : World} {mb b p t M e n f k : Nat} {H : Hp} {pR : Option Addr} {qR cR : Nat} {R : List (Nat × Nat)} {pQ : Option Addr} {qQ cQ : Nat} {Q : List (Nat × Nat)} {N : Nat × Nat → Option (List Rf)} {P : Pl} (kind I K : Nat) (_ : kind ≤ 255) (_ : I ≤ 255) (_ : K ≤ 255)
    (h : Mb w0 w mb b p t M e H pR qR cR R pQ qQ cQ Q N P) (hm : Mo H n f k R Q N) (he : e ≤ k) (hk : k ≤ 200) (h2 : kind % 4 = 3) (hq : 0 < qR) :
    Calls Try.prog 32 #[.pointer (some ⟨mb, 0, none⟩), .agg #[.int .u8 kind, .int .u8 I, .int .u8 K]] w fun e w' => e = .returned (.bool true) ∧ Hid (Ms w0 w' mb b n f (k + 1)) := by
  have hk4 : (kind : Int).tmod 4 = ((kind % 4 : Nat) : Int) := tmod_nat kind 4
  generalize kind % 4 = k4 at *
  subst h2
  obtain ⟨y, hy⟩ : ∃ y, I % qR = y := ⟨_, rfl⟩
  obtain ⟨z, hz⟩ : ∃ z, K % qR = z := ⟨_, rfl⟩
  have hIy : (I : Int).tmod qR = (y : Int) := by rw [tmod_nat, hy]
  have hKz : (K : Int).tmod qR = (z : Int) := by rw [tmod_nat, hz]
  have hyq : y < qR := by rw [← hy]; exact Nat.mod_lt _ hq
  have hzq : z < qR := by rw [← hz]; exact Nat.mod_lt _ hq
  have hK8 : (K : Int).tmod 8 = ((K % 8 : Nat) : Int) := tmod_nat K 8
  have hK4 : (K : Int).tmod 4 = ((K % 4 : Nat) : Int) := tmod_nat K 4
  obtain ⟨j, hj⟩ : ∃ j, K % 4 = j := ⟨_, rfl⟩
  have hj4 : j < 4 := by rw [← hj]; exact Nat.mod_lt _ (by decide)
  obtain ⟨k8, hk8⟩ : ∃ k8, K % 8 = k8 := ⟨_, rfl⟩
  rw [hj] at hK4
  rw [hk8] at hK8
  obtain ⟨⟨ri, rg⟩, hr⟩ : ∃ r, R[y]? = some r := ⟨_, List.getElem?_eq_getElem (by rw [h.lR]; exact hyq)⟩
  obtain ⟨⟨vi, vg⟩, hv⟩ : ∃ r, R[z]? = some r := ⟨_, List.getElem?_eq_getElem (by rw [h.lR]; exact hzq)⟩
  have hrm : (ri, rg) ∈ R := List.mem_of_getElem? hr
  have hvm : (vi, vg) ∈ R := List.mem_of_getElem? hv
  have MO := Lib.hid (And.intro hm (And.intro he hk))
  have RM := Lib.hid hrm
  have VE : Hid (∀ v : Rf, (v = (0, 0) ∨ v = ro (vi, vg)) → H.vE v = 0) := fun v h => by
    unfold Hp.vE
    rcases h with rfl | rfl
    · rfl
    · split
      · rfl
      · exact hm.chk hvm
  clear hm he hk hy hz hj hk8
  obtain ⟨w1, hw1⟩ : ∃ w1, w.alloc (.cells #[.int .u8 kind, .int .u8 I, .int .u8 K] 65) = w1 := ⟨_, rfl⟩
  have HW := Lib.hid hw1
  have hbt := Bk.new w 65 #[.int .u8 kind, .int .u8 I, .int .u8 K]
  have h1 := h.quiet (bel_new w (.cells #[.int .u8 kind, .int .u8 I, .int .u8 K] 65))
  rw [hw1] at hbt h1
  have H1 := Lib.hid h1
  have BT := Lib.hid hbt
  have m0 : w1.cell? ⟨mb, 0, none⟩ = some (.pointer (some ⟨b, 0, none⟩)) := h1.bm.cell 0
  have m2 : w1.cell? ⟨mb, 2, none⟩ = some (.slice pR qR cR) := h1.bm.cell 2
  have t0 : w1.cell? ⟨w.heap.size, 0, none⟩ = some (.int .u8 kind) := hbt.cell 0
  have t1 : w1.cell? ⟨w.heap.size, 1, none⟩ = some (.int .u8 I) := hbt.cell 1
  have t2 : w1.cell? ⟨w.heap.size, 2, none⟩ = some (.int .u8 K) := hbt.cell 2
  obtain ⟨g, rfl, hqc, hcm, bg, _, hcl⟩ := row_at h1.rR h1.lR hq
  have b1 : mb < w1.heap.size := h1.bm.lt
  have bt : w.heap.size < w1.heap.size := hbt.lt
  have hwI : IntKind.i64.wrap (I : Int) = I := by rw [IntKind.wrap_i64]; omega
  have hwK : IntKind.i64.wrap (K : Int) = K := by rw [IntKind.wrap_i64]; omega
  have NJ : ¬ qR = 0 := by omega
  obtain ⟨r0, r1⟩ := hcl y (ri, rg) hr
  obtain ⟨v0, v1⟩ := hcl z (vi, vg) hv
  simp only at r0 r1 v0 v1
  have hyc : y < cR := by omega
  have hzc : z < cR := by omega
  have NI : ¬ (qR : Int) = 0 := by omega
  have NB : ((qR : Int) == 0) = false := by simpa using NI
  clear h h1 hbt hw1 hcl hrm hvm
  go_enter Try.func32, Try.ntmps32
  go_upto_region 1 with fail
  rw [HW.out]
  go_upto_region 18 with fail
  go_cut [12] from 98 to 173 (fun v12 wx => ∃ B12 : Nat, v12 = .pointer (some ⟨B12, 0, none⟩) ∧ Hid (Below w1.heap.size w1 wx ∧ Bk wx B12 34 #[.int .i64 ri, .int .u32 rg] ∧ w1.heap.size ≤ B12))
  case first =>
    go_region
    all_goals
      go_wp2_with fail
      go_meet
      exact ⟨_, rfl, ⟨bel_drew (bel_new w1 _), Bk.new w1 _ _, Nat.le_refl _⟩⟩
  case rest =>
    obtain ⟨wd, hwd⟩ : ∃ wd, wd = wc := ⟨_, rfl⟩
    subst hwd
    obtain ⟨B12, rfl, HF⟩ := hcut
    obtain ⟨hB, hb12, hl12⟩ := HF.out
    have hM := H1.out.quiet hB
    have HM := Lib.hid hM
    have hbt := BT.out.below hB
    have BT1 := Lib.hid hbt
    have HB12 := Lib.hid hb12
    have n2 : wd.cell? ⟨mb, 2, none⟩ = some (.slice (some ⟨g, 0, none⟩) qR cR) := hM.bm.cell 2
    have t2' : wd.cell? ⟨w.heap.size, 2, none⟩ = some (.int .u8 K) := hbt.cell 2
    have v0' : wd.cell? ⟨g, z * 2, none⟩ = some (.int .i64 vi) := (hB.cell (p := ⟨g, z * 2, none⟩) bg).trans v0
    have v1' : wd.cell? ⟨g, z * 2 + 1, none⟩ = some (.int .u32 vg) := (hB.cell (p := ⟨g, z * 2 + 1, none⟩) bg).trans v1
    have b1' : mb < wd.heap.size := Nat.lt_of_lt_of_le b1 hB.size
    have bt' : w.heap.size < wd.heap.size := Nat.lt_of_lt_of_le bt hB.size
    have bg' : g < wd.heap.size := Nat.lt_of_lt_of_le bg hB.size
    clear hB hb12 hl12 hM hbt m0 m2 t0 t1 t2 r0 r1 v0 v1 b1 bt bg
    go_upto_region 19 with fail
    go_cut [13] from 174 to 184 (fun v13 wx => ∃ B13 : Nat, v13 = .pointer (some ⟨B13, 0, none⟩) ∧ Hid (Below wd.heap.size wd wx ∧ Bk wx B13 34 #[.int .i64 vi, .int .u32 vg] ∧ wd.heap.size ≤ B13))
    case first =>
      go_region
      all_goals
        go_wp2_with fail
        go_meet
        exact ⟨_, rfl, ⟨bel_drew (bel_new wd _), Bk.new wd _ _, Nat.le_refl _⟩⟩
    case rest =>
      obtain ⟨B13, rfl, HG⟩ := hcut
      obtain ⟨hB, hb13, hl13⟩ := HG.out
      have t2' : wc.cell? ⟨w.heap.size, 2, none⟩ = some (.int .u8 K) := (BT1.out.below hB).cell 2
      have c0 := hb13.cell 0
      have c1 := hb13.cell 1
      have z0 := hb13.frozen 0
      have z1 := hb13.frozen 1
      simp only [List.getElem?_toArray, List.getElem?_cons_zero, List.getElem?_cons_succ] at c0 c1
      clear hB hb13 hl13 v0' v1' n2 b1' bt' bg'
      go_upto_if 188 with fail
      go_cut [13] from 185 to 189 (fun v13 wx => ∃ x : Nat, v13 = .pointer (some ⟨x, 0, none⟩) ∧ B13 = x ∧ ∃ v : Rf, Hid ((v = (0, 0) ∨ v = ro (vi, vg)) ∧ Below wd.heap.size wd wx ∧ Bk wx B13 34 (rfc v)))
      case first =>
        by_cases hk7 : k8 = 7
        · subst hk7
          go_wp2_with fail
          go_meet
          exact ⟨_, rfl, rfl, (0, 0), ⟨.inl rfl, (HG.out.1.setCell (p := ⟨B13, 0, none⟩) HG.out.2.2 _).setCell (p := ⟨B13, 1, none⟩) HG.out.2.2 _, (HG.out.2.1.put 0 _).put 1 _⟩⟩
        · have hk7b : ((k8 : Int) == 7) = false := by simpa using (by omega : ¬ (k8 : Int) = 7)
          go_wp2_with fail
          go_meet
          exact ⟨_, rfl, rfl, ro (vi, vg), ⟨.inr rfl, HG.out.1, HG.out.2.1⟩⟩
      case rest =>
        obtain ⟨_, rfl, rfl, v, HV⟩ := hcut
        clear t2' c0 c1 z0 z1
        obtain ⟨wg, hwg⟩ : ∃ wg, wg = wc := ⟨_, rfl⟩
        subst hwg
        obtain ⟨hv0, hB, hb13⟩ := HV.out
        obtain ⟨vi, vg⟩ := v
        have hE := VE.out _ hv0
        have hM := HM.out.quiet hB
        have hb12 := HB12.out.below hB
        have hbt := BT1.out.below hB
        have HMg := Lib.hid hM
        have H12 := Lib.hid hb12
        have H13 := Lib.hid hb13
        have hvk : RfOk (vi, vg) := hM.st.f.ok.v_ok hE
        have hvr := hvk.rr
        have hpo : Poss (H.o ri) := MO.out.1.poss RM.out
        obtain ⟨q, hq1⟩ : ∃ q, H.sR ((ri : Int), (rg : Int)) (j : Int) (vi, vg) = q := ⟨_, rfl⟩
        obtain ⟨E, hE1⟩ : ∃ E, H.sE ((ri : Int), (rg : Int)) (j : Int) (vi, vg) = E := ⟨_, rfl⟩
        obtain ⟨H', hH1⟩ : ∃ H', H.stored ((ri : Int), (rg : Int)) (j : Int) (vi, vg) = H' := ⟨_, rfl⟩
        have ST : Hid (∀ X, HSt w0 X b p t H → Calls Try.prog 20 #[.pointer (some ⟨b, 0, none⟩), .agg #[.int .i64 (ri : Nat), .int .u32 (rg : Nat)], .int .i64 (j : Nat), .agg #[.int .i64 vi, .int .u32 vg]] X fun e w' => e = .returned (.tuple #[.agg #[.int .i64 q.1, .int .u32 q.2], .int .i64 E]) ∧ HSt w0 w' b p t H' ∧ Kept (HFoot b p t) X w') := fun X hX => by
          rw [← hH1]
          exact store_s _ _ _ vi vg q E ⟨by omega, by omega⟩ hvr hX hq1 hE1
        have ZC : Hid (∀ X, Kept (HFoot b p t) wg X → X.cell? ⟨mb, 0, none⟩ = some (.pointer (some ⟨b, 0, none⟩)) ∧ X.cell? ⟨B12, 0, none⟩ = some (.int .i64 ri) ∧ X.cell? ⟨B12, 1, none⟩ = some (.int .u32 rg) ∧ X.cell? ⟨B13, 0, none⟩ = some (.int .i64 vi) ∧ X.cell? ⟨B13, 1, none⟩ = some (.int .u32 vg)) := fun X hk => by
          have q1 := hM.bm.kept hk hM.fm
          have q2 := hb12.kept hk (hM.ref hb12).1
          have q3 := hb13.kept hk (hM.ref hb13).1
          exact ⟨q1.cell 0, q2.cell 0, q2.cell 1, q3.cell 0, q3.cell 1⟩
        have Z0 : Hid (HSt w0 wg.drew b p t H) := hM.st.quiet (bel_dr wg)
        have ZL : Hid (w0.heap.size ≤ wg.heap.size ∧ ∀ g, HFoot b p t g → g < wg.heap.size) := ⟨hM.st.bel.size, fun g hg => hM.st.f.foot_lt hg⟩
        have t2' : wg.cell? ⟨w.heap.size, 2, none⟩ = some (.int .u8 K) := hbt.cell 2
        have hwj : IntKind.i64.wrap (j : Int) = j := by rw [IntKind.wrap_i64]; omega
        have HQ := Lib.hid (And.intro hq1 (And.intro hE1 (And.intro hH1 (And.intro hE (And.intro hvk hpo)))))
        clear hv0 hB hM hb12 hbt hb13 hE hvk hvr hpo hq1 hE1 hH1
        go_upto_region 23 with fail
        go_cut [15, 16] from 185 to 204 (fun v15 v16 wx => ∃ B15 : Nat, v15 = .pointer (some ⟨B15, 0, none⟩) ∧ v16 = .int .i64 E ∧ Hid (HSt w0 wx b p t H' ∧ Kept (HFoot b p t) wg wx ∧ Bk wx B15 34 (rfc q) ∧ wg.heap.size ≤ B15))
        case first =>
          refine rc_region mb b B12 B13 j ri rg vi vg (S := HFoot b p t) (Z1 := fun X => HSt w0 X b p t H) (Z2 := fun X => HSt w0 X b p t H') q E rfl rfl rfl rfl rfl Z0.out (fun _ _ h => h.quiet (bel_new _ _)) (fun _ _ h => h.quiet (bel_new _ _)) (fun X c u v hc hb h => st_box h (Nat.le_trans ZL.out.1 hc) hb u v) ZL.out.2 ZC.out (fun X hX => ST.out X hX) ?_
          intro us B15 wx hk hz hb hl hu
          simp [frm, List.range, List.range.loop, rcD, rcH, hu]
          go_wp2_with fail
          go_meet
          exact ⟨B15, rfl, rfl, hz, hk, hb, hl⟩
        case rest =>
          obtain ⟨B15, rfl, rfl, HX⟩ := hcut
          clear t2'
          obtain ⟨hS, hK5, hb15, hl15⟩ := HX.out
          have hM := HMg.out.heap hK5 hS
          have h12 := H12.out.kept hK5 (HMg.out.ref H12.out).1
          have h13 := H13.out.kept hK5 (HMg.out.ref H13.out).1
          obtain ⟨hq1, hE1, hH1, hE, hvk, hpo⟩ := HQ.out
          have hN := MO.out.1.val _ RM.out
          obtain ⟨x, l, hP⟩ : ∃ x l, P (ri, rg) = some (x, l) := by
            cases c : P (ri, rg) with
            | none => have := hM.fd.no _ c; rw [hN] at this; cases this
            | some x => exact ⟨x.1, x.2, rfl⟩
          obtain ⟨L, g1, g2, g3, g4, g5, g6, RG⟩ := hM.fd.yes _ _ _ hP
          obtain rfl : (H.o ri).flds = L := by rw [hN] at g1; exact Option.some.inj g1
          have hfl := flds_len hpo
          have hn4 := hpo.n4
          rw [g2] at hfl
          have lk : ∀ W : World, W.heap = wc.heap → (Instr.lookup 66 (.map (some M)) (.agg #[.int .i64 (ri : Nat), .int .u32 (rg : Nat)]) false).run Try.prog W = .ok (.slice (some ⟨x, 0, none⟩) l l) W := fun W hW => by
            have := (MapF.same (w' := W) hM.mp (by rw [hW])).look RG
            rw [hP] at this
            exact this
          have lk1 := lk wc.drew rfl
          have lk2 : ∀ n, _ := fun n => lk (wc.drewN n) rfl
          have lk0 := lk wc rfl
          have LK := Lib.hid lk
          have n0 : wc.cell? ⟨mb, 0, none⟩ = some (.pointer (some ⟨b, 0, none⟩)) := hM.bm.cell 0
          have n1 : wc.cell? ⟨mb, 1, none⟩ = some (.map (some M)) := hM.bm.cell 1
          obtain ⟨d0, d1⟩ := hb15.rf
          have c0 : wc.cell? ⟨B12, 0, none⟩ = some (.int .i64 (ri : Nat)) := h12.cell 0
          have c1 : wc.cell? ⟨B12, 1, none⟩ = some (.int .u32 (rg : Nat)) := h12.cell 1
          obtain ⟨e0, e1⟩ := h13.rf
          simp only at e0 e1
          have HMx := Lib.hid hM
          have H13x := Lib.hid h13
          have H12x := Lib.hid h12
          have FX := Lib.hid (And.intro g3 (And.intro hN (And.intro hP g2)))
          by_cases hin : j < l
          · obtain ⟨s1, s2, s3⟩ := Hp.store_yes (H := H) (i := ri) (g := rg) (k := (j : Int)) (v := (vi, vg)) (MO.out.1.chk RM.out) hpo ⟨by omega, by omega⟩ hE
            rw [hE1] at s1
            rw [hq1] at s2
            rw [hH1] at s3
            rw [Int.toNat_natCast] at s2 s3
            have NW := MO.out.1.store RM.out (j := j) (by rw [g2]; exact hin) hvk
            rw [← s3] at NW
            have MW := Lib.hid NW
            subst s1
            have hqe : (H.o ri).flds[j]'(by rw [g2]; exact hin) = q := by
              have := flds_at (o := H.o ri) (j := j) (by rw [g2]; exact hin)
              rw [s2, ← Option.some.inj (this.symm.trans (List.getElem?_eq_getElem (by rw [g2]; exact hin)))]
            have xc : ∀ k, k < 2 → wc.cell? ⟨x, j * 2 + k, none⟩ = (rcl q)[k]? := fun k hk => by
              rw [g3.cell, List.getElem?_toArray, rcls_at _ j (by rw [g2]; exact hin) k hk, hqe]
            have x0 : wc.cell? ⟨x, j * 2, none⟩ = some (.int .i64 q.1) := xc 0 (by decide)
            have x1 : wc.cell? ⟨x, j * 2 + 1, none⟩ = some (.int .u32 q.2) := xc 1 (by decide)
            have hge : ¬ (l : Int) ≤ (j : Int) := by omega
            have hlt : (j : Int) < (l : Int) := by omega
            have hlt2 : j < l := hin
            clear hS hK5 hb15 hl15 hM h12 h13 hq1 hE1 hH1 hE hvk hpo hN hP g1 g2 g3 g4 g5 g6 hfl hn4 s2 s3 NW hqe xc hin
            go_upto_region 24 with fail
            go_quiet (fail)
            go_upto_region 26 with fail
            go_quiet (fail)
            go_upto_region 27 with fail
            generalize hwy : wc.drewN _ = wy
            have hd : Below wc.heap.size wc wy := by rw [← hwy]; exact bel_drn wc _
            have lkz : ∀ W : World, W.heap = wy.heap → (Instr.lookup 66 (.map (some M)) (.agg #[.int .i64 (ri : Nat), .int .u32 (rg : Nat)]) false).run Try.prog W = .ok (.slice (some ⟨x, 0, none⟩) l l) W := fun W hW => LK.out W (by rw [hW, ← hwy]; rfl)
            have lkz0 := lkz wy rfl
            have lkz1 := lkz wy.drew rfl
            have lkz2 : ∀ n, _ := fun n => lkz (wy.drewN n) rfl
            have hMy := HMx.out.quiet hd
            have n0 : wy.cell? ⟨mb, 0, none⟩ = some (.pointer (some ⟨b, 0, none⟩)) := hMy.bm.cell 0
            have n1 : wy.cell? ⟨mb, 1, none⟩ = some (.map (some M)) := hMy.bm.cell 1
            have c0 : wy.cell? ⟨B12, 0, none⟩ = some (.int .i64 (ri : Nat)) := (H12x.out.below hd).cell 0
            have c1 : wy.cell? ⟨B12, 1, none⟩ = some (.int .u32 (rg : Nat)) := (H12x.out.below hd).cell 1
            have e0 : wy.cell? ⟨B13, 0, none⟩ = some (.int .i64 vi) := (H13x.out.below hd).cell 0
            have e1 : wy.cell? ⟨B13, 1, none⟩ = some (.int .u32 vg) := (H13x.out.below hd).cell 1
            have hxb := FX.out.1.below hd
            have x0 : wy.cell? ⟨x, j * 2, none⟩ = some (.int .i64 q.1) := (hd.cell (p := ⟨x, j * 2, none⟩) FX.out.1.lt).trans x0
            have x1 : wy.cell? ⟨x, j * 2 + 1, none⟩ = some (.int .u32 q.2) := (hd.cell (p := ⟨x, j * 2 + 1, none⟩) FX.out.1.lt).trans x1
            have xf0 := hxb.frozen (j * 2)
            have xf1 := hxb.frozen (j * 2 + 1)
            have HF9 := Lib.hid (fun X (hX : Below wy.heap.size wy X) => (hMy.quiet hX).fld FX.out.2.2.1 FX.out.2.1 (by rw [FX.out.2.2.2]; exact hlt2) (vi, vg))
            clear hMy hxb lk0 lk1 lk2 hd hwy lkz
            try clear lk
            go_region
            all_goals
              go_wp2
              go_ret
              exact ⟨rfl, _, _, _, _, _, _, _, _, _, _, _, _, _, _, _, (by first | exact HF9.out _ (Below.refl _ _) | exact HF9.out _ (bel_drn _ _) | exact HF9.out _ (bel_dr _)), MW.out, Nat.le_succ_of_le MO.out.2.1⟩
          · have s1 := Hp.store_out (H := H) (i := ri) (g := rg) (k := (j : Int)) (v := (vi, vg)) (MO.out.1.chk RM.out) hpo (.inr (by omega))
            obtain ⟨s2, s3⟩ := Hp.store_no s1 (by decide)
            rw [hE1] at s1
            rw [hq1] at s2
            rw [hH1] at s3
            subst s1 s2 s3
            have hge : (l : Int) ≤ (j : Int) := by omega
            simp only at d0 d1
            clear hS hK5 hb15 hl15 hM h12 h13 hq1 hE1 hH1 hE hvk hpo hN hP g1 g2 g3 g4 g5 g6 hfl hn4 hin
            go_upto_region 24 with fail
            go_quiet (fail)
            go_wp2
            go_ret
            exact ⟨rfl, _, _, _, _, _, _, _, _, _, _, _, _, _, _, _, HMx.out.quiet (bel_drn _ _), MO.out.1.keep, Nat.le_succ_of_le MO.out.2.1⟩
end Go.Proofs.Ytfnhkapbfgofkaa
