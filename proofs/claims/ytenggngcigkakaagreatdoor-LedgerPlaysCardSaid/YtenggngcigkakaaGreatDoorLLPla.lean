/- LedgerPlays gives true: the walk. -/
import Derived.Test.YtenggngcigkakaaGreatDoorKd
namespace Go.Proofs.YtenggngcigkakaaGreatDoor
open Go.RowKit Go.ChangeShapes

set_option maxRecDepth 100000 in
set_option maxHeartbeats 8000000 in
theorem lPla_nat (a : Option Addr) (n c : Nat) (l : List Att) (k i g : Int) (cp : Nat) (w0 : World) (hr : RdA w0 (.slice a n c) l) (hg : AllRg l) (ho : RgO k i g) (hcp : cp ≤ 255) (he : EnvL w0) :
    Calls Tryz.prog 3 #[.slice a n c, .agg #[.int .i64 k, .int .i64 i, .int .u32 g], .int .u8 cp] w0 fun e w' => e = .returned (.bool true) ∧ Below w0.heap.size w0 w' := by
  obtain ⟨hn, hcap, hcm, _⟩ := hr.cap
  have HB0 := Lib.hid (bel_new w0 (.cells #[.int .i64 k, .int .i64 i, .int .u32 g] 25))
  have HE := Lib.hid (he.below HB0.out)
  have HR := Lib.hid (hr.below HB0.out)
  have HO := Lib.hid ho
  have HG := Lib.hid hg
  have HOX := Lib.hid (Bk.new w0 25 #[.int .i64 k, .int .i64 i, .int .u32 g])
  clear he hr hg ho
  by_cases hlong : 60 < n
  · clear hn
    go_enter Tryz.func3, Tryz.ntmps3
    go_wp2_with fail
    refine (works_ok _ HE.out).mono ?_
    rintro e w5 ⟨rfl, hb5⟩
    have HB5 := Lib.hid (bel2 HB0.out hb5)
    clear hb5
    go_wp2
    go_ret
    exact ⟨rfl, HB5.out⟩
  have HN : Hid (l.length = n) := hn.symm
  have hn60 : n ≤ 60 := by omega
  clear hn
  go_enter Tryz.func3, Tryz.ntmps3
  go_wp2_with fail
  generalize hob : w0.heap.size = ob at HOX
  generalize hw : w0.alloc (.cells #[.int .i64 k, .int .i64 i, .int .u32 g] 25) = w at *
  refine (new_ok w).mono ?_
  rintro e w1 ⟨rfl, hl1, hb1⟩
  have HL1 := Lib.hid hl1
  have HB1 := Lib.hid hb1
  clear hl1 hb1
  go_wp2_with fail
  refine (rnew_ok w1).mono ?_
  rintro e w2 ⟨rfl, hr2, hb2⟩
  have HP2 : Hid (PlW w w2 (w.heap.size + 2) (w.heap.size + 1) w.heap.size w1.heap.size (.slice none 0 0) w1.heap.size [] []) := by
    have h1 := HL1.out.below hb2
    exact ⟨h1.1, hr2, fun g hg => (by cases hg), fun hf => by have := (HL1.out.foot_le ((h1.2 _).1 hf)).2; omega, Nat.le_refl _, HB1.out.size, bel2 HB1.out hb2⟩
  clear hr2 hb2 HL1 HB1
  go_wp2
  generalize w1.heap.size = rb at *
  generalize w1.heap.size = rlo0 at *
  go_loopw [7, 30] (fun pa si wr => ∃ (j b bk lo rlo : Nat) (rv : Value), j ≤ n ∧ pa = .pointer (some ⟨b, 0, none⟩) ∧ si = .int .i64 j ∧ Hid (PlW w wr b bk lo rb rv rlo (plays (l.take j)) (plays (l.take j)))) (fun _ si _ => n - (intOf si).toNat)
  case atStart => exact ⟨0, _, _, _, _, _, Nat.zero_le _, rfl, rfl, HP2⟩
  case round =>
    obtain ⟨j, b, bk, lo, rlo, rv, hjn, rfl, rfl, HP⟩ := hrel
    clear HP2
    by_cases hlt : j < n
    · have hlt2 : j < l.length := by rw [HN.out]; exact hlt
      obtain ⟨gl, off, rfl, hgl, hsix⟩ := (HR.out.below HP.out.bel).cell hlt2
      have HXR := Lib.hid (HG.out _ (List.getElem_mem hlt2))
      have HPT := Lib.hid (plays_take l j hlt2)
      generalize l[j] = x at *
      generalize plays (l.take j) = L at *
      obtain ⟨c0, c1, c2, c3, c4, c5⟩ := hsix
      have HP3 := Lib.hid (HP.out.below (bel_new wr (.cells #[.int .i64 x.t, .int .i64 x.k, .int .i64 x.i, .int .u32 x.g, .int .i64 x.y, .int .i64 x.n] 32)))
      have HX3 : Hid (Bk (wr.alloc (.cells #[.int .i64 x.t, .int .i64 x.k, .int .i64 x.i, .int .u32 x.g, .int .i64 x.y, .int .i64 x.n] 32)) wr.heap.size 32 x.cl.toArray) := Bk.new wr _ _
      have HXF : Hid (∀ g, Foot (wr.alloc (.cells #[.int .i64 x.t, .int .i64 x.k, .int .i64 x.i, .int .u32 x.g, .int .i64 x.y, .int .i64 x.n] 32)) bk g → g < wr.heap.size) := fun g hg => (HP.out.led.foot_le (((HP.out.led.below (bel_new wr (.cells #[.int .i64 x.t, .int .i64 x.k, .int .i64 x.i, .int .u32 x.g, .int .i64 x.y, .int .i64 x.n] 32))).2 g).1 hg)).2
      have HXN : Hid (rb < wr.heap.size ∧ ∀ g, rv.ownBlock = some g → g < wr.heap.size) := ⟨HP.out.lt_ref.1, fun g hg => (HP.out.lt_ref.2 g hg).2⟩
      clear hlt2 hgl HP
      by_cases hc : j = cp
      · have hcb : ((j : Int) == (cp : Int)) = true := by rw [beq_iff_eq]; omega
        clear hc
        go_wp2_with fail
        refine (copy_ok b bk _ L _ HP3.out.led).mono ?_
        rintro e w4 ⟨b4, bk4, rfl, hge4, hl4, hb4⟩
        have HL4 := Lib.hid hl4
        have HB4 := Lib.hid hb4
        have HGE := Lib.hid hge4
        clear hl4 hb4 hge4 c0 c1 c2 c3 c4 c5
        go_wp2_with fail
        refine (file_ok _).mono ?_
        rintro e w5 ⟨rfl, hb5⟩
        have HL5 := Lib.hid (HL4.out.below hb5).1
        have HB5 := Lib.hid (bel2 HB4.out hb5)
        clear hb5 HL4 HB4
        unfold okey
        go_wp2_with fail
        refine (add_ok b bk _ L (⟨1099511627776, 1, 3, 1, 1, 1⟩ : Att) w5 (HP3.out.below HB5.out).led (by constructor <;> decide) (HE.out.below (HP3.out.below HB5.out).bel)).mono ?_
        rintro e w6 ⟨rfl, _, hk6, _⟩
        generalize addE L (⟨1099511627776, 1, 3, 1, 1, 1⟩ : Att) = EO
        have HP6 := Lib.hid (HP3.out.copy HL5.out HGE.out HB5.out hk6)
        have HX6 : Hid (Bk w6 wr.heap.size 32 x.cl.toArray) := (HX3.out.below HB5.out).kept hk6 (fun hf => absurd (HXF.out _ (((HP3.out.led.below HB5.out).2 _).1 hf)) (Nat.lt_irrefl _))
        have HXF6 : Hid (∀ g, Foot w6 bk4 g → g ≠ wr.heap.size) := fun g hf e => by
          have h1 := (HP6.out.led.foot_le hf).1
          rw [size_up] at h1
          omega
        clear hk6 HP3 HX3 HXF HL5 HB5 HGE
        go_wp2
        generalize (wr.alloc (.cells #[.int .i64 x.t, .int .i64 x.k, .int .i64 x.i, .int .u32 x.g, .int .i64 x.y, .int .i64 x.n] 32)).heap.size = LOX at *
        generalize wr.heap.size = xb at *
        obtain ⟨E1, hE1⟩ : ∃ E1, chkE x = E1 := ⟨_, rfl⟩
        obtain ⟨E2, hE2⟩ : ∃ E2, addE L x = E2 := ⟨_, rfl⟩
        have HC1 : Hid (∀ W, EnvL W → Calls Tryz.prog 19 #[.agg #[.int .i64 x.t, .int .i64 x.k, .int .i64 x.i, .int .u32 x.g, .int .i64 x.y, .int .i64 x.n]] W fun e w' => e = .returned (.int .i64 E1) ∧ Below W.heap.size W w') := fun W hW => by rw [← hE1]; exact chk_att x HXR.out W hW
        have HC2 : Hid (∀ W, Calls Tryz.prog 20 #[.agg #[.int .i64 x.t, .int .i64 x.k, .int .i64 x.i, .int .u32 x.g, .int .i64 x.y, .int .i64 x.n]] W fun e w' => e = .returned (.int .i64 E1) ∧ Below W.heap.size W w') := fun W => by rw [← hE1]; exact rchk_att x HXR.out W
        obtain ⟨L2, hL2⟩ : ∃ L2, addL L x = L2 := ⟨_, rfl⟩
        have HA1 : Hid (∀ W lo' rv' rlo' M, PlW w W b4 bk4 lo' rb rv' rlo' L M → Calls Tryz.prog 17 #[.pointer (some ⟨b4, 0, none⟩), .agg #[.int .i64 x.t, .int .i64 x.k, .int .i64 x.i, .int .u32 x.g, .int .i64 x.y, .int .i64 x.n]] W fun e w' => e = .returned (.int .i64 E2) ∧ PlW w w' b4 bk4 lo' rb rv' rlo' L2 M ∧ Kept (Foot W bk4) W w' ∧ ∀ g, Foot w' bk4 g → Foot W bk4 g ∨ W.heap.size ≤ g) := fun W lo' rv' rlo' M hW => by
          refine (add_ok b4 bk4 lo' L x W hW.led HXR.out (HE.out.below hW.bel)).mono ?_
          rintro e w' ⟨rfl, h1, h2, h3⟩
          rw [hL2] at h1
          exact ⟨by rw [hE2], hW.addA h1 h2 h3, h2, h3⟩
        have HA2 : Hid (∀ W lo' rv' rlo' M, PlW w W b4 bk4 lo' rb rv' rlo' M L → Calls Tryz.prog 21 #[.pointer (some ⟨rb, 0, none⟩), .agg #[.int .i64 x.t, .int .i64 x.k, .int .i64 x.i, .int .u32 x.g, .int .i64 x.y, .int .i64 x.n]] W fun e w' => e = .returned (.int .i64 E2) ∧ ∃ rv2, PlW w w' b4 bk4 lo' rb rv2 rlo' M L2 ∧ Kept (fun g => g = rb ∨ rv'.ownBlock = some g) W w' ∧ ∀ g, rv2.ownBlock = some g → rv'.ownBlock = some g ∨ W.heap.size ≤ g) := fun W lo' rv' rlo' M hW => by
          refine (radd_ok rb rlo' rv' L x W hW.ref HXR.out (Nat.le_trans hW.ref.lb (Nat.le_of_lt hW.ref.hb.lt))).mono ?_
          rintro e w' ⟨rfl, rv2, h1, h2, h3⟩
          rw [hL2] at h1
          exact ⟨by rw [hE2], rv2, hW.addB h1 h2 h3, h2, h3⟩
        have HL2 := Lib.hid (HPT.out.trans hL2)
        clear hE1 hE2 hL2 HPT
        have HSX : Hid (∀ W, Bk W xb 32 x.cl.toArray → (W.cell? ⟨xb, 0, none⟩ = some (.int .i64 x.t) ∧ W.cell? ⟨xb, 1, none⟩ = some (.int .i64 x.k) ∧ W.cell? ⟨xb, 2, none⟩ = some (.int .i64 x.i) ∧ W.cell? ⟨xb, 3, none⟩ = some (.int .u32 x.g) ∧ W.cell? ⟨xb, 4, none⟩ = some (.int .i64 x.y) ∧ W.cell? ⟨xb, 5, none⟩ = some (.int .i64 x.n))) := fun W h => ⟨h.cell 0, h.cell 1, h.cell 2, h.cell 3, h.cell 4, h.cell 5⟩
        have HQ0 : Hid (Below w6.heap.size w6 w6.drew) := bel_drew (Below.refl _ _)
        have HXN6 : Hid (¬ (xb = rb ∨ rv.ownBlock = some xb)) := by
          rintro (e | e)
          · exact absurd HXN.out.1 (by omega)
          · exact absurd (HXN.out.2 _ e) (Nat.lt_irrefl _)
        have HND : Hid (∀ W, Below w6.heap.size w6 W → ∀ g, Foot W bk4 g → ¬ (g = rb ∨ rv.ownBlock = some g)) := fun W hW g hg e => by
          rcases e with e | e
          · subst e; exact (HP6.out.below hW).nrb hg
          · exact (HP6.out.below hW).dis g e hg
        have HNB : Hid (¬ (b4 = rb ∨ rv.ownBlock = some b4)) := by
          rintro (e | e)
          · subst e; exact absurd (HP6.out.led.hb.uniq HP6.out.ref.hb).1 (by decide)
          · exact absurd (own_type HP6.out.ref.row e HP6.out.led.hb) (by decide)
        have hz0 := HSX.out _ (HX6.out.below HQ0.out)
        go_region_held3 (fun W => W.cell? ⟨xb, 0, none⟩ = some (.int .i64 x.t) ∧ W.cell? ⟨xb, 1, none⟩ = some (.int .i64 x.k) ∧ W.cell? ⟨xb, 2, none⟩ = some (.int .i64 x.i) ∧ W.cell? ⟨xb, 3, none⟩ = some (.int .u32 x.g) ∧ W.cell? ⟨xb, 4, none⟩ = some (.int .i64 x.y) ∧ W.cell? ⟨xb, 5, none⟩ = some (.int .i64 x.n)) (first | (with_reducible exact hza) | (with_reducible exact hzb) | (with_reducible exact hzc) | (with_reducible exact hzd) | (with_reducible exact hze) | (with_reducible exact hzf) | exact hz0)
          (first
          | (go_at_call 19; (with_reducible refine at_w w6.drew ?_); refine (HC1.out _ (HE.out.below (bel2 HP6.out.bel HQ0.out))).mono ?_; rintro e wa ⟨rfl, hba⟩; have HQa := Lib.hid (bel2 HQ0.out hba); have hza := HSX.out _ (HX6.out.below HQa.out); clear hba hz0)
          | (go_at_call 20; (with_reducible refine at_w w6.drew ?_); refine (HC2.out _).mono ?_; rintro e wb ⟨rfl, hbb⟩; have HQb := Lib.hid (bel2 HQ0.out hbb); have hzb := HSX.out _ (HX6.out.below HQb.out); clear hbb hz0)
          | (go_at_call 19; (with_reducible refine at_w wb ?_); refine (HC1.out _ (HE.out.below (bel2 HP6.out.bel HQb.out))).mono ?_; rintro e wc ⟨rfl, hbc⟩; have HQc := Lib.hid (bel2 HQb.out hbc); have hzc := HSX.out _ (HX6.out.below HQc.out); clear hbc hzb HQb)
          | (go_at_call 20; (with_reducible refine at_w wa ?_); refine (HC2.out _).mono ?_; rintro e wc ⟨rfl, hbc⟩; have HQc := Lib.hid (bel2 HQa.out hbc); have hzc := HSX.out _ (HX6.out.below HQc.out); clear hbc hza HQa)
          | (go_at_call 17; (with_reducible refine at_w wc ?_); refine (HA1.out _ _ _ _ _ (HP6.out.below HQc.out)).mono ?_; rintro e wd ⟨rfl, hpd, hkd, hfd⟩; have HPd := Lib.hid hpd; have HXd := Lib.hid ((HX6.out.below HQc.out).kept hkd (fun hf => HXF6.out _ (((HP6.out.led.below HQc.out).2 _).1 hf) rfl)); have hzd := HSX.out _ HXd.out; clear hpd hkd hfd hzc)
          | (go_at_call 21; (with_reducible refine at_w wc ?_); refine (HA2.out _ _ _ _ _ (HP6.out.below HQc.out)).mono ?_; rintro e wf ⟨rfl, rvf, hpf, hkf, hff⟩; have HPf := Lib.hid hpf; have HXf := Lib.hid ((HX6.out.below HQc.out).kept hkf HXN6.out); have HFf : Hid (∀ g, Foot wf bk4 g → g ≠ xb) := (fun g hf e => HXF6.out g (by have h1 := (HP6.out.led.below HQc.out).2 g; exact h1.1 (((HP6.out.below HQc.out).led.kept hkf HNB.out (HND.out _ HQc.out)).2 g |>.1 hf)) e); have hzf := HSX.out _ HXf.out; clear hpf hkf hff hzc)
          | (go_at_call 21; (with_reducible refine at_w wd ?_); refine (HA2.out _ _ _ _ _ HPd.out).mono ?_; rintro e we ⟨rfl, rve, hpe, hke, hfe⟩; have HPe := Lib.hid hpe; have HXe := Lib.hid (HXd.out.kept hke HXN6.out); have hze := HSX.out _ HXe.out; clear hpe hke hfe hzd HPd HXd)
          | (go_at_call 17; (with_reducible refine at_w wf ?_); refine (HA1.out _ _ _ _ _ HPf.out).mono ?_; rintro e we ⟨rfl, hpe, hke, hfe⟩; have HPe := Lib.hid hpe; have HXe := Lib.hid (HXf.out.kept hke (fun hf => HFf.out _ hf rfl)); have hze := HSX.out _ HXe.out; clear hpe hke hfe hzf HPf HXf HFf))
        all_goals
          clear hze HSX HQ0 HXN6 HND HNB HQc HC1 HC2 HA1 HA2
          have HOXe := Lib.hid (HOX.out.below HPe.out.bel)
          have d0 := HOXe.out.cell 0
          have d1 := HOXe.out.cell 1
          have d2 := HOXe.out.cell 2
          have x1 := HXe.out.cell 1
          have x2 := HXe.out.cell 2
          have x3 := HXe.out.cell 3
          have HPu := Lib.hid (HPe.out.below (bel_new we (.cells #[.int .i64 k, .int .i64 i, .int .u32 g, .int .i64 x.k, .int .i64 x.i, .int .u32 x.g] 25)))
          have HUB := Lib.hid (Bk.new we 25 #[.int .i64 k, .int .i64 i, .int .u32 g, .int .i64 x.k, .int .i64 x.i, .int .u32 x.g])
          clear HOXe HXe HPe
          go_wp2
          clear d0 d1 d2 x1 x2 x3
          generalize we.alloc (.cells #[.int .i64 k, .int .i64 i, .int .u32 g, .int .i64 x.k, .int .i64 x.i, .int .u32 x.g] 25) = wu at *
          generalize we.heap.size = ub at *
          have HUC : Hid (∀ W, Below wu.heap.size wu W → ∀ r : Nat, r < 2 → ∃ K I G, RgO K I G ∧ W.cell? ⟨ub, r * 3, none⟩ = some (.int .i64 K) ∧ W.cell? ⟨ub, r * 3 + 1, none⟩ = some (.int .i64 I) ∧ W.cell? ⟨ub, r * 3 + 2, none⟩ = some (.int .u32 G)) := fun W hW r hr => by
            have h := HUB.out.below hW
            match r, hr with
            | 0, _ => exact ⟨k, i, g, HO.out, h.cell 0, h.cell 1, h.cell 2⟩
            | 1, _ => exact ⟨x.k, x.i, x.g, HXR.out.o, h.cell 3, h.cell 4, h.cell 5⟩
          go_loopw [67] (fun si wr => ∃ r : Nat, r ≤ 2 ∧ si = .int .i64 r ∧ Hid (Below wu.heap.size wu wr)) (fun si _ => 2 - (intOf si).toNat)
          case atStart => exact ⟨0, Nat.zero_le _, rfl, Below.refl _ _⟩
          case round =>
            obtain ⟨r, hr2, rfl, HB⟩ := hrel
            by_cases hrl : r < 2
            · obtain ⟨K, I, G, hKO, e0, e1, e2⟩ := HUC.out _ HB.out r hrl
              have HKO := Lib.hid hKO
              obtain ⟨M, hM⟩ : ∃ M, ofL L2 K I G = M := ⟨_, rfl⟩
              obtain ⟨F, hF⟩ : ∃ F, firstOf M = F := ⟨_, rfl⟩
              obtain ⟨D0, hD0⟩ : ∃ D0, (!M.isEmpty) = D0 := ⟨_, rfl⟩
              obtain ⟨EE, hEE⟩ : ∃ EE, endOf M = EE := ⟨_, rfl⟩
              obtain ⟨DD, hDD⟩ : ∃ DD, isEnd M = DD := ⟨_, rfl⟩
              have HF1 : Hid (∀ W, PlW w W b4 bk4 LOX rb rve rlo L2 L2 → Calls Tryz.prog 22 #[.pointer (some ⟨b4, 0, none⟩), .agg #[.int .i64 K, .int .i64 I, .int .u32 G]] W fun e w' => e = .returned (.tuple #[.agg #[.int .i64 F.t, .int .i64 F.k, .int .i64 F.i, .int .u32 F.g, .int .i64 F.y, .int .i64 F.n], .bool D0]) ∧ Below W.heap.size W w') := fun W hW => by
                have h := first_ok b4 bk4 LOX L2 K I G hKO W hW.led
                rw [hM] at h
                unfold FirstV at h
                rw [hF, hD0] at h
                exact h
              have HF2 : Hid (∀ W, PlW w W b4 bk4 LOX rb rve rlo L2 L2 → Calls Tryz.prog 23 #[.pointer (some ⟨rb, 0, none⟩), .agg #[.int .i64 K, .int .i64 I, .int .u32 G]] W fun e w' => e = .returned (.tuple #[.agg #[.int .i64 F.t, .int .i64 F.k, .int .i64 F.i, .int .u32 F.g, .int .i64 F.y, .int .i64 F.n], .bool D0]) ∧ Below W.heap.size W w') := fun W hW => by
                have h := rfirst_ok rb rlo rve L2 K I G W hW.ref
                rw [hM] at h
                unfold FirstV at h
                rw [hF, hD0] at h
                exact h
              have HE1 : Hid (∀ W, PlW w W b4 bk4 LOX rb rve rlo L2 L2 → Calls Tryz.prog 24 #[.pointer (some ⟨b4, 0, none⟩), .agg #[.int .i64 K, .int .i64 I, .int .u32 G]] W fun e w' => e = .returned (.tuple #[.int .i64 EE, .bool DD]) ∧ Below W.heap.size W w') := fun W hW => by
                have h := ended_ok b4 bk4 LOX L2 K I G hKO W hW.led
                rw [hM] at h
                unfold EndV at h
                rw [hEE, hDD] at h
                exact h
              have HE2 : Hid (∀ W, PlW w W b4 bk4 LOX rb rve rlo L2 L2 → Calls Tryz.prog 25 #[.pointer (some ⟨rb, 0, none⟩), .agg #[.int .i64 K, .int .i64 I, .int .u32 G]] W fun e w' => e = .returned (.tuple #[.int .i64 EE, .bool DD]) ∧ Below W.heap.size W w') := fun W hW => by
                have h := rended_ok rb rlo rve L2 K I G W hW.ref
                rw [hM] at h
                unfold EndV at h
                rw [hEE, hDD] at h
                exact h
              have HO1 : Hid (∀ W, PlW w W b4 bk4 LOX rb rve rlo L2 L2 → Calls Tryz.prog 27 #[.pointer (some ⟨b4, 0, none⟩), .agg #[.int .i64 K, .int .i64 I, .int .u32 G]] W (NewA M W)) := fun W hW => by
                have h := ofs_ok b4 bk4 LOX L2 K I G hKO W hW.led
                rw [hM] at h
                exact h
              have HO2 : Hid (∀ W, PlW w W b4 bk4 LOX rb rve rlo L2 L2 → Calls Tryz.prog 28 #[.pointer (some ⟨rb, 0, none⟩), .agg #[.int .i64 K, .int .i64 I, .int .u32 G]] W (NewA M W)) := fun W hW => by
                have h := rof_ok rb rlo rve L2 K I G W hW.ref
                rw [hM] at h
                exact h
              have HPr := Lib.hid (HPu.out.below (bel2 HB.out (bel_new wr (.cells #[.int .i64 K, .int .i64 I, .int .u32 G] 25))))
              have HBr := Lib.hid (bel2 HB.out (bel_new wr (.cells #[.int .i64 K, .int .i64 I, .int .u32 G] 25)))
              have HKB := Lib.hid (Bk.new wr 25 #[.int .i64 K, .int .i64 I, .int .u32 G])
              clear hKO hM hF hD0 hEE hDD HUC HKO
              go_wp2_with fail
              clear e0 e1 e2
              refine (HF1.out _ HPr.out).mono ?_
              generalize wr.alloc (.cells #[.int .i64 K, .int .i64 I, .int .u32 G] 25) = w9 at *
              generalize wr.heap.size = kb at *
              rintro e w10 ⟨rfl, hb10⟩
              have hb11 := bel2 hb10 (bel_new w10 (.cells #[.int .i64 F.t, .int .i64 F.k, .int .i64 F.i, .int .u32 F.g, .int .i64 F.y, .int .i64 F.n] 32))
              have HPs := Lib.hid (HPr.out.below hb11)
              have HBs := Lib.hid (bel2 HBr.out hb11)
              have HKs := Lib.hid (HKB.out.below hb11)
              have HFs := Lib.hid (Bk.new w10 32 #[.int .i64 F.t, .int .i64 F.k, .int .i64 F.i, .int .u32 F.g, .int .i64 F.y, .int .i64 F.n])
              clear hb10 hb11 HPr HBr HKB HF1
              have d0 := HKs.out.cell 0
              have d1 := HKs.out.cell 1
              have d2 := HKs.out.cell 2
              go_wp2_with fail
              clear d0 d1 d2
              refine (HF2.out _ HPs.out).mono ?_
              generalize w10.alloc (.cells #[.int .i64 F.t, .int .i64 F.k, .int .i64 F.i, .int .u32 F.g, .int .i64 F.y, .int .i64 F.n] 32) = w11 at *
              generalize w10.heap.size = fb at *
              rintro e w12 ⟨rfl, hb12⟩
              have hb13 := bel2 hb12 (bel_new w12 (.cells #[.int .i64 F.t, .int .i64 F.k, .int .i64 F.i, .int .u32 F.g, .int .i64 F.y, .int .i64 F.n] 32))
              have HPt := Lib.hid (HPs.out.below hb13)
              have HBt := Lib.hid (bel2 HBs.out hb13)
              have HKt := Lib.hid (HKs.out.below hb13)
              have HFt := Lib.hid (HFs.out.below hb13)
              have HGt := Lib.hid (Bk.new w12 32 #[.int .i64 F.t, .int .i64 F.k, .int .i64 F.i, .int .u32 F.g, .int .i64 F.y, .int .i64 F.n])
              clear hb12 hb13 HPs HBs HKs HFs HF2
              have d0 := HKt.out.cell 0
              have d1 := HKt.out.cell 1
              have d2 := HKt.out.cell 2
              go_wp2_with fail
              clear d0 d1 d2
              refine (HE1.out _ HPt.out).mono ?_
              generalize w12.alloc (.cells #[.int .i64 F.t, .int .i64 F.k, .int .i64 F.i, .int .u32 F.g, .int .i64 F.y, .int .i64 F.n] 32) = w13 at *
              generalize w12.heap.size = gb at *
              rintro e w14 ⟨rfl, hb14⟩
              have HPv := Lib.hid (HPt.out.below hb14)
              have HBv := Lib.hid (bel2 HBt.out hb14)
              have HKv := Lib.hid (HKt.out.below hb14)
              have HFv := Lib.hid (HFt.out.below hb14)
              have HGv := Lib.hid (HGt.out.below hb14)
              clear hb14 HPt HBt HKt HFt HGt HE1
              have d0 := HKv.out.cell 0
              have d1 := HKv.out.cell 1
              have d2 := HKv.out.cell 2
              go_wp2_with fail
              clear d0 d1 d2
              refine (HE2.out _ HPv.out).mono ?_
              rintro e w15 ⟨rfl, hb15⟩
              have HPx := Lib.hid (HPv.out.below hb15)
              have HBx := Lib.hid (bel2 HBv.out hb15)
              have HKx := Lib.hid (HKv.out.below hb15)
              have HFx := Lib.hid (HFv.out.below hb15)
              have HGx := Lib.hid (HGv.out.below hb15)
              clear hb15 HPv HBv HKv HFv HGv HE2
              go_wp2
              have HS : Hid (∀ W, Below w15.heap.size w15 W → (W.cell? ⟨kb, 0, none⟩ = some (.int .i64 K) ∧ W.cell? ⟨kb, 1, none⟩ = some (.int .i64 I) ∧ W.cell? ⟨kb, 2, none⟩ = some (.int .u32 G) ∧ W.cell? ⟨fb, 0, none⟩ = some (.int .i64 F.t) ∧ W.cell? ⟨fb, 1, none⟩ = some (.int .i64 F.k) ∧ W.cell? ⟨fb, 2, none⟩ = some (.int .i64 F.i) ∧ W.cell? ⟨fb, 3, none⟩ = some (.int .u32 F.g) ∧ W.cell? ⟨fb, 4, none⟩ = some (.int .i64 F.y) ∧ W.cell? ⟨fb, 5, none⟩ = some (.int .i64 F.n) ∧ W.cell? ⟨gb, 0, none⟩ = some (.int .i64 F.t) ∧ W.cell? ⟨gb, 1, none⟩ = some (.int .i64 F.k) ∧ W.cell? ⟨gb, 2, none⟩ = some (.int .i64 F.i) ∧ W.cell? ⟨gb, 3, none⟩ = some (.int .u32 F.g) ∧ W.cell? ⟨gb, 4, none⟩ = some (.int .i64 F.y) ∧ W.cell? ⟨gb, 5, none⟩ = some (.int .i64 F.n))) := fun W hW => by
                have h1 := HKx.out.below hW
                have h2 := HFx.out.below hW
                have h3 := HGx.out.below hW
                exact ⟨h1.cell 0, h1.cell 1, h1.cell 2, h2.cell 0, h2.cell 1, h2.cell 2, h2.cell 3, h2.cell 4, h2.cell 5, h3.cell 0, h3.cell 1, h3.cell 2, h3.cell 3, h3.cell 4, h3.cell 5⟩
              have HQ0 : Hid (Below w15.heap.size w15 w15.drew) := bel_drew (Below.refl _ _)
              have hz0 := HS.out _ HQ0.out
              go_region_held3 (fun W => W.cell? ⟨kb, 0, none⟩ = some (.int .i64 K) ∧ W.cell? ⟨kb, 1, none⟩ = some (.int .i64 I) ∧ W.cell? ⟨kb, 2, none⟩ = some (.int .u32 G) ∧ W.cell? ⟨fb, 0, none⟩ = some (.int .i64 F.t) ∧ W.cell? ⟨fb, 1, none⟩ = some (.int .i64 F.k) ∧ W.cell? ⟨fb, 2, none⟩ = some (.int .i64 F.i) ∧ W.cell? ⟨fb, 3, none⟩ = some (.int .u32 F.g) ∧ W.cell? ⟨fb, 4, none⟩ = some (.int .i64 F.y) ∧ W.cell? ⟨fb, 5, none⟩ = some (.int .i64 F.n) ∧ W.cell? ⟨gb, 0, none⟩ = some (.int .i64 F.t) ∧ W.cell? ⟨gb, 1, none⟩ = some (.int .i64 F.k) ∧ W.cell? ⟨gb, 2, none⟩ = some (.int .i64 F.i) ∧ W.cell? ⟨gb, 3, none⟩ = some (.int .u32 F.g) ∧ W.cell? ⟨gb, 4, none⟩ = some (.int .i64 F.y) ∧ W.cell? ⟨gb, 5, none⟩ = some (.int .i64 F.n)) (first | (with_reducible exact hza) | (with_reducible exact hzb) | (with_reducible exact hzc) | (with_reducible exact hzd) | exact hz0)
                (first
                | (go_at_call 27; (with_reducible refine at_w w15.drew ?_); refine (HO1.out _ (HPx.out.below HQ0.out)).mono ?_; rintro e wa ⟨va, rfl, hoa, hba⟩; obtain ⟨pa, na, ca, rfl⟩ : ∃ pa na ca, va = .slice pa na ca := (by obtain ⟨q, k, h⟩ := rd_slice (RdA.of_own hoa); exact ⟨_, _, _, h⟩); have HQa := Lib.hid (bel2 HQ0.out hba); have HRa := Lib.hid (RdA.of_own hoa); have hza := HS.out _ HQa.out; clear hoa hba hz0)
                | (go_at_call 28; (with_reducible refine at_w wa ?_); refine (HO2.out _ (HPx.out.below HQa.out)).mono ?_; rintro e wc ⟨vc, rfl, hoc, hbc⟩; obtain ⟨pc, nc, cc, rfl⟩ : ∃ pa na ca, vc = .slice pa na ca := (by obtain ⟨q, k, h⟩ := rd_slice (RdA.of_own hoc); exact ⟨_, _, _, h⟩); have HQc := Lib.hid (bel2 HQa.out hbc); have HRc := Lib.hid (HRa.out.below hbc); have HTc := Lib.hid (RdA.of_own hoc); have hzc := HS.out _ HQc.out; clear hoc hbc hza)
                | (go_at_call 28; (with_reducible refine at_w w15.drew ?_); refine (HO2.out _ (HPx.out.below HQ0.out)).mono ?_; rintro e wb ⟨vb, rfl, hob2, hbb⟩; obtain ⟨pb, nb, cb, rfl⟩ : ∃ pa na ca, vb = .slice pa na ca := (by obtain ⟨q, k, h⟩ := rd_slice (RdA.of_own hob2); exact ⟨_, _, _, h⟩); have HQb := Lib.hid (bel2 HQ0.out hbb); have HTb := Lib.hid (RdA.of_own hob2); have hzb := HS.out _ HQb.out; clear hob2 hbb hz0)
                | (go_at_call 27; (with_reducible refine at_w wb ?_); refine (HO1.out _ (HPx.out.below HQb.out)).mono ?_; rintro e wc ⟨vc, rfl, hoc, hbc⟩; obtain ⟨pc, nc, cc, rfl⟩ : ∃ pa na ca, vc = .slice pa na ca := (by obtain ⟨q, k, h⟩ := rd_slice (RdA.of_own hoc); exact ⟨_, _, _, h⟩); have HQc := Lib.hid (bel2 HQb.out hbc); have HTc := Lib.hid (HTb.out.below hbc); have HRc := Lib.hid (RdA.of_own hoc); have hzc := HS.out _ HQc.out; clear hoc hbc hzb)
                | (go_at_call 26; refine (equal_yes _ _ _ _ _ _ M _ HRc.out HTc.out).mono ?_; rintro e wd ⟨rfl, hbd⟩; have HQd := Lib.hid (bel2 HQc.out hbd); have hzd := HS.out _ HQd.out; clear hbd hzc))
              all_goals
                clear hzd
                have Hb4 := Lib.hid (bel2 HBx.out HQd.out)
                clear HS HQ0 HQd
                go_wp2
                go_roundw
                case rel => exact ⟨r + 1, by omega, by go_num, Hb4.out⟩
                case measure => simp [intOf]; omega
            · obtain rfl : r = 2 := by omega
              clear hrl HUC
              have HPr := Lib.hid (HPu.out.below HB.out)
              obtain ⟨LN, hLN⟩ : ∃ LN, L2.length = LN := ⟨_, rfl⟩
              have HLN : Hid (∀ W, PlW w W b4 bk4 LOX rb rve rlo L2 L2 → Calls Tryz.prog 29 #[.pointer (some ⟨b4, 0, none⟩)] W fun e w' => e = .returned (.int .i64 LN) ∧ W = w') := fun W hW => by rw [← hLN]; exact len_ok b4 bk4 LOX L2 W hW.led
              have HRN : Hid (∀ W, PlW w W b4 bk4 LOX rb rve rlo L2 L2 → Calls Tryz.prog 30 #[.pointer (some ⟨rb, 0, none⟩)] W fun e w' => e = .returned (.int .i64 LN) ∧ Below W.heap.size W w') := fun W hW => by rw [← hLN]; exact rlen_ok rb rlo rve L2 W hW.ref
              clear hLN
              go_wp2_with fail
              refine (HLN.out _ HPr.out).mono ?_
              rintro e w' ⟨rfl, rfl⟩
              go_wp2_with fail
              refine (HRN.out _ HPr.out).mono ?_
              rintro e w10 ⟨rfl, hb10⟩
              have HPs := Lib.hid (HPr.out.below hb10)
              clear hb10 HPr HLN HRN
              go_wp2_with fail
              refine (all_ok b4 bk4 LOX L2 _ HPs.out.led).mono ?_
              rintro e w11 ⟨v, rfl, ho, hb11⟩
              obtain ⟨pa, na, ca, rfl⟩ : ∃ pa na ca, v = .slice pa na ca := by obtain ⟨q, k, h⟩ := rd_slice (RdA.of_own ho); exact ⟨_, _, _, h⟩
              have HPt := Lib.hid (HPs.out.below hb11)
              have HRt := Lib.hid (RdA.of_own ho)
              clear ho hb11 HPs
              go_wp2_with fail
              refine (rall_ok rb rlo rve L2 _ HPt.out.ref).mono ?_
              rintro e w12 ⟨v, rfl, ho, hb12⟩
              obtain ⟨pc, nc, cc, rfl⟩ : ∃ pa na ca, v = .slice pa na ca := by obtain ⟨q, k, h⟩ := rd_slice (RdA.of_own ho); exact ⟨_, _, _, h⟩
              have HPv := Lib.hid (HPt.out.below hb12)
              have HRv := Lib.hid (HRt.out.below hb12)
              have HTv := Lib.hid (RdA.of_own ho)
              clear ho hb12 HPt HRt
              go_wp2_with fail
              refine (equal_yes _ _ _ _ _ _ L2 _ HRv.out HTv.out).mono ?_
              rintro e w13 ⟨rfl, hb13⟩
              have HPx := Lib.hid (HPv.out.below hb13)
              clear hb13 HPv HRv HTv
              go_wp2
              go_roundw
              case rel => exact ⟨j + 1, b4, bk4, LOX, rlo, rve, by omega, rfl, by go_num, by rw [HL2.out]; exact HPx.out⟩
              case measure => simp [intOf]; omega
      · have hcb : ((j : Int) == (cp : Int)) = false := by rw [beq_eq_false_iff_ne]; omega
        clear hc
        have HXF6 : Hid (∀ g, Foot (wr.alloc (.cells #[.int .i64 x.t, .int .i64 x.k, .int .i64 x.i, .int .u32 x.g, .int .i64 x.y, .int .i64 x.n] 32)) bk g → g ≠ wr.heap.size) := fun g hf e => absurd (HXF.out g hf) (by omega)
        go_wp2
        clear HXF c0 c1 c2 c3 c4 c5
        generalize wr.alloc (.cells #[.int .i64 x.t, .int .i64 x.k, .int .i64 x.i, .int .u32 x.g, .int .i64 x.y, .int .i64 x.n] 32) = w6 at *
        generalize wr.heap.size = xb at *
        obtain ⟨E1, hE1⟩ : ∃ E1, chkE x = E1 := ⟨_, rfl⟩
        obtain ⟨E2, hE2⟩ : ∃ E2, addE L x = E2 := ⟨_, rfl⟩
        have HC1 : Hid (∀ W, EnvL W → Calls Tryz.prog 19 #[.agg #[.int .i64 x.t, .int .i64 x.k, .int .i64 x.i, .int .u32 x.g, .int .i64 x.y, .int .i64 x.n]] W fun e w' => e = .returned (.int .i64 E1) ∧ Below W.heap.size W w') := fun W hW => by rw [← hE1]; exact chk_att x HXR.out W hW
        have HC2 : Hid (∀ W, Calls Tryz.prog 20 #[.agg #[.int .i64 x.t, .int .i64 x.k, .int .i64 x.i, .int .u32 x.g, .int .i64 x.y, .int .i64 x.n]] W fun e w' => e = .returned (.int .i64 E1) ∧ Below W.heap.size W w') := fun W => by rw [← hE1]; exact rchk_att x HXR.out W
        obtain ⟨L2, hL2⟩ : ∃ L2, addL L x = L2 := ⟨_, rfl⟩
        have HA1 : Hid (∀ W lo' rv' rlo' M, PlW w W b bk lo' rb rv' rlo' L M → Calls Tryz.prog 17 #[.pointer (some ⟨b, 0, none⟩), .agg #[.int .i64 x.t, .int .i64 x.k, .int .i64 x.i, .int .u32 x.g, .int .i64 x.y, .int .i64 x.n]] W fun e w' => e = .returned (.int .i64 E2) ∧ PlW w w' b bk lo' rb rv' rlo' L2 M ∧ Kept (Foot W bk) W w' ∧ ∀ g, Foot w' bk g → Foot W bk g ∨ W.heap.size ≤ g) := fun W lo' rv' rlo' M hW => by
          refine (add_ok b bk lo' L x W hW.led HXR.out (HE.out.below hW.bel)).mono ?_
          rintro e w' ⟨rfl, h1, h2, h3⟩
          rw [hL2] at h1
          exact ⟨by rw [hE2], hW.addA h1 h2 h3, h2, h3⟩
        have HA2 : Hid (∀ W lo' rv' rlo' M, PlW w W b bk lo' rb rv' rlo' M L → Calls Tryz.prog 21 #[.pointer (some ⟨rb, 0, none⟩), .agg #[.int .i64 x.t, .int .i64 x.k, .int .i64 x.i, .int .u32 x.g, .int .i64 x.y, .int .i64 x.n]] W fun e w' => e = .returned (.int .i64 E2) ∧ ∃ rv2, PlW w w' b bk lo' rb rv2 rlo' M L2 ∧ Kept (fun g => g = rb ∨ rv'.ownBlock = some g) W w' ∧ ∀ g, rv2.ownBlock = some g → rv'.ownBlock = some g ∨ W.heap.size ≤ g) := fun W lo' rv' rlo' M hW => by
          refine (radd_ok rb rlo' rv' L x W hW.ref HXR.out (Nat.le_trans hW.ref.lb (Nat.le_of_lt hW.ref.hb.lt))).mono ?_
          rintro e w' ⟨rfl, rv2, h1, h2, h3⟩
          rw [hL2] at h1
          exact ⟨by rw [hE2], rv2, hW.addB h1 h2 h3, h2, h3⟩
        have HL2 := Lib.hid (HPT.out.trans hL2)
        clear hE1 hE2 hL2 HPT
        have HSX : Hid (∀ W, Bk W xb 32 x.cl.toArray → (W.cell? ⟨xb, 0, none⟩ = some (.int .i64 x.t) ∧ W.cell? ⟨xb, 1, none⟩ = some (.int .i64 x.k) ∧ W.cell? ⟨xb, 2, none⟩ = some (.int .i64 x.i) ∧ W.cell? ⟨xb, 3, none⟩ = some (.int .u32 x.g) ∧ W.cell? ⟨xb, 4, none⟩ = some (.int .i64 x.y) ∧ W.cell? ⟨xb, 5, none⟩ = some (.int .i64 x.n))) := fun W h => ⟨h.cell 0, h.cell 1, h.cell 2, h.cell 3, h.cell 4, h.cell 5⟩
        have HQ0 : Hid (Below w6.heap.size w6 w6.drew) := bel_drew (Below.refl _ _)
        have HXN6 : Hid (¬ (xb = rb ∨ rv.ownBlock = some xb)) := by
          rintro (e | e)
          · exact absurd HXN.out.1 (by omega)
          · exact absurd (HXN.out.2 _ e) (Nat.lt_irrefl _)
        have HND : Hid (∀ W, Below w6.heap.size w6 W → ∀ g, Foot W bk g → ¬ (g = rb ∨ rv.ownBlock = some g)) := fun W hW g hg e => by
          rcases e with e | e
          · subst e; exact (HP3.out.below hW).nrb hg
          · exact (HP3.out.below hW).dis g e hg
        have HNB : Hid (¬ (b = rb ∨ rv.ownBlock = some b)) := by
          rintro (e | e)
          · subst e; exact absurd (HP3.out.led.hb.uniq HP3.out.ref.hb).1 (by decide)
          · exact absurd (own_type HP3.out.ref.row e HP3.out.led.hb) (by decide)
        have hz0 := HSX.out _ (HX3.out.below HQ0.out)
        go_region_held3 (fun W => W.cell? ⟨xb, 0, none⟩ = some (.int .i64 x.t) ∧ W.cell? ⟨xb, 1, none⟩ = some (.int .i64 x.k) ∧ W.cell? ⟨xb, 2, none⟩ = some (.int .i64 x.i) ∧ W.cell? ⟨xb, 3, none⟩ = some (.int .u32 x.g) ∧ W.cell? ⟨xb, 4, none⟩ = some (.int .i64 x.y) ∧ W.cell? ⟨xb, 5, none⟩ = some (.int .i64 x.n)) (first | (with_reducible exact hza) | (with_reducible exact hzb) | (with_reducible exact hzc) | (with_reducible exact hzd) | (with_reducible exact hze) | (with_reducible exact hzf) | exact hz0)
          (first
          | (go_at_call 19; (with_reducible refine at_w w6.drew ?_); refine (HC1.out _ (HE.out.below (bel2 HP3.out.bel HQ0.out))).mono ?_; rintro e wa ⟨rfl, hba⟩; have HQa := Lib.hid (bel2 HQ0.out hba); have hza := HSX.out _ (HX3.out.below HQa.out); clear hba hz0)
          | (go_at_call 20; (with_reducible refine at_w w6.drew ?_); refine (HC2.out _).mono ?_; rintro e wb ⟨rfl, hbb⟩; have HQb := Lib.hid (bel2 HQ0.out hbb); have hzb := HSX.out _ (HX3.out.below HQb.out); clear hbb hz0)
          | (go_at_call 19; (with_reducible refine at_w wb ?_); refine (HC1.out _ (HE.out.below (bel2 HP3.out.bel HQb.out))).mono ?_; rintro e wc ⟨rfl, hbc⟩; have HQc := Lib.hid (bel2 HQb.out hbc); have hzc := HSX.out _ (HX3.out.below HQc.out); clear hbc hzb HQb)
          | (go_at_call 20; (with_reducible refine at_w wa ?_); refine (HC2.out _).mono ?_; rintro e wc ⟨rfl, hbc⟩; have HQc := Lib.hid (bel2 HQa.out hbc); have hzc := HSX.out _ (HX3.out.below HQc.out); clear hbc hza HQa)
          | (go_at_call 17; (with_reducible refine at_w wc ?_); refine (HA1.out _ _ _ _ _ (HP3.out.below HQc.out)).mono ?_; rintro e wd ⟨rfl, hpd, hkd, hfd⟩; have HPd := Lib.hid hpd; have HXd := Lib.hid ((HX3.out.below HQc.out).kept hkd (fun hf => HXF6.out _ (((HP3.out.led.below HQc.out).2 _).1 hf) rfl)); have hzd := HSX.out _ HXd.out; clear hpd hkd hfd hzc)
          | (go_at_call 21; (with_reducible refine at_w wc ?_); refine (HA2.out _ _ _ _ _ (HP3.out.below HQc.out)).mono ?_; rintro e wf ⟨rfl, rvf, hpf, hkf, hff⟩; have HPf := Lib.hid hpf; have HXf := Lib.hid ((HX3.out.below HQc.out).kept hkf HXN6.out); have HFf : Hid (∀ g, Foot wf bk g → g ≠ xb) := (fun g hf e => HXF6.out g (by have h1 := (HP3.out.led.below HQc.out).2 g; exact h1.1 (((HP3.out.below HQc.out).led.kept hkf HNB.out (HND.out _ HQc.out)).2 g |>.1 hf)) e); have hzf := HSX.out _ HXf.out; clear hpf hkf hff hzc)
          | (go_at_call 21; (with_reducible refine at_w wd ?_); refine (HA2.out _ _ _ _ _ HPd.out).mono ?_; rintro e we ⟨rfl, rve, hpe, hke, hfe⟩; have HPe := Lib.hid hpe; have HXe := Lib.hid (HXd.out.kept hke HXN6.out); have hze := HSX.out _ HXe.out; clear hpe hke hfe hzd HPd HXd)
          | (go_at_call 17; (with_reducible refine at_w wf ?_); refine (HA1.out _ _ _ _ _ HPf.out).mono ?_; rintro e we ⟨rfl, hpe, hke, hfe⟩; have HPe := Lib.hid hpe; have HXe := Lib.hid (HXf.out.kept hke (fun hf => HFf.out _ hf rfl)); have hze := HSX.out _ HXe.out; clear hpe hke hfe hzf HPf HXf HFf))
        all_goals
          clear hze HSX HQ0 HXN6 HND HNB HQc HC1 HC2 HA1 HA2
          have HOXe := Lib.hid (HOX.out.below HPe.out.bel)
          have d0 := HOXe.out.cell 0
          have d1 := HOXe.out.cell 1
          have d2 := HOXe.out.cell 2
          have x1 := HXe.out.cell 1
          have x2 := HXe.out.cell 2
          have x3 := HXe.out.cell 3
          have HPu := Lib.hid (HPe.out.below (bel_new we (.cells #[.int .i64 k, .int .i64 i, .int .u32 g, .int .i64 x.k, .int .i64 x.i, .int .u32 x.g] 25)))
          have HUB := Lib.hid (Bk.new we 25 #[.int .i64 k, .int .i64 i, .int .u32 g, .int .i64 x.k, .int .i64 x.i, .int .u32 x.g])
          clear HOXe HXe HPe
          go_wp2
          clear d0 d1 d2 x1 x2 x3
          generalize we.alloc (.cells #[.int .i64 k, .int .i64 i, .int .u32 g, .int .i64 x.k, .int .i64 x.i, .int .u32 x.g] 25) = wu at *
          generalize we.heap.size = ub at *
          have HUC : Hid (∀ W, Below wu.heap.size wu W → ∀ r : Nat, r < 2 → ∃ K I G, RgO K I G ∧ W.cell? ⟨ub, r * 3, none⟩ = some (.int .i64 K) ∧ W.cell? ⟨ub, r * 3 + 1, none⟩ = some (.int .i64 I) ∧ W.cell? ⟨ub, r * 3 + 2, none⟩ = some (.int .u32 G)) := fun W hW r hr => by
            have h := HUB.out.below hW
            match r, hr with
            | 0, _ => exact ⟨k, i, g, HO.out, h.cell 0, h.cell 1, h.cell 2⟩
            | 1, _ => exact ⟨x.k, x.i, x.g, HXR.out.o, h.cell 3, h.cell 4, h.cell 5⟩
          go_loopw [67] (fun si wr => ∃ r : Nat, r ≤ 2 ∧ si = .int .i64 r ∧ Hid (Below wu.heap.size wu wr)) (fun si _ => 2 - (intOf si).toNat)
          case atStart => exact ⟨0, Nat.zero_le _, rfl, Below.refl _ _⟩
          case round =>
            obtain ⟨r, hr2, rfl, HB⟩ := hrel
            by_cases hrl : r < 2
            · obtain ⟨K, I, G, hKO, e0, e1, e2⟩ := HUC.out _ HB.out r hrl
              have HKO := Lib.hid hKO
              obtain ⟨M, hM⟩ : ∃ M, ofL L2 K I G = M := ⟨_, rfl⟩
              obtain ⟨F, hF⟩ : ∃ F, firstOf M = F := ⟨_, rfl⟩
              obtain ⟨D0, hD0⟩ : ∃ D0, (!M.isEmpty) = D0 := ⟨_, rfl⟩
              obtain ⟨EE, hEE⟩ : ∃ EE, endOf M = EE := ⟨_, rfl⟩
              obtain ⟨DD, hDD⟩ : ∃ DD, isEnd M = DD := ⟨_, rfl⟩
              have HF1 : Hid (∀ W, PlW w W b bk lo rb rve rlo L2 L2 → Calls Tryz.prog 22 #[.pointer (some ⟨b, 0, none⟩), .agg #[.int .i64 K, .int .i64 I, .int .u32 G]] W fun e w' => e = .returned (.tuple #[.agg #[.int .i64 F.t, .int .i64 F.k, .int .i64 F.i, .int .u32 F.g, .int .i64 F.y, .int .i64 F.n], .bool D0]) ∧ Below W.heap.size W w') := fun W hW => by
                have h := first_ok b bk lo L2 K I G hKO W hW.led
                rw [hM] at h
                unfold FirstV at h
                rw [hF, hD0] at h
                exact h
              have HF2 : Hid (∀ W, PlW w W b bk lo rb rve rlo L2 L2 → Calls Tryz.prog 23 #[.pointer (some ⟨rb, 0, none⟩), .agg #[.int .i64 K, .int .i64 I, .int .u32 G]] W fun e w' => e = .returned (.tuple #[.agg #[.int .i64 F.t, .int .i64 F.k, .int .i64 F.i, .int .u32 F.g, .int .i64 F.y, .int .i64 F.n], .bool D0]) ∧ Below W.heap.size W w') := fun W hW => by
                have h := rfirst_ok rb rlo rve L2 K I G W hW.ref
                rw [hM] at h
                unfold FirstV at h
                rw [hF, hD0] at h
                exact h
              have HE1 : Hid (∀ W, PlW w W b bk lo rb rve rlo L2 L2 → Calls Tryz.prog 24 #[.pointer (some ⟨b, 0, none⟩), .agg #[.int .i64 K, .int .i64 I, .int .u32 G]] W fun e w' => e = .returned (.tuple #[.int .i64 EE, .bool DD]) ∧ Below W.heap.size W w') := fun W hW => by
                have h := ended_ok b bk lo L2 K I G hKO W hW.led
                rw [hM] at h
                unfold EndV at h
                rw [hEE, hDD] at h
                exact h
              have HE2 : Hid (∀ W, PlW w W b bk lo rb rve rlo L2 L2 → Calls Tryz.prog 25 #[.pointer (some ⟨rb, 0, none⟩), .agg #[.int .i64 K, .int .i64 I, .int .u32 G]] W fun e w' => e = .returned (.tuple #[.int .i64 EE, .bool DD]) ∧ Below W.heap.size W w') := fun W hW => by
                have h := rended_ok rb rlo rve L2 K I G W hW.ref
                rw [hM] at h
                unfold EndV at h
                rw [hEE, hDD] at h
                exact h
              have HO1 : Hid (∀ W, PlW w W b bk lo rb rve rlo L2 L2 → Calls Tryz.prog 27 #[.pointer (some ⟨b, 0, none⟩), .agg #[.int .i64 K, .int .i64 I, .int .u32 G]] W (NewA M W)) := fun W hW => by
                have h := ofs_ok b bk lo L2 K I G hKO W hW.led
                rw [hM] at h
                exact h
              have HO2 : Hid (∀ W, PlW w W b bk lo rb rve rlo L2 L2 → Calls Tryz.prog 28 #[.pointer (some ⟨rb, 0, none⟩), .agg #[.int .i64 K, .int .i64 I, .int .u32 G]] W (NewA M W)) := fun W hW => by
                have h := rof_ok rb rlo rve L2 K I G W hW.ref
                rw [hM] at h
                exact h
              have HPr := Lib.hid (HPu.out.below (bel2 HB.out (bel_new wr (.cells #[.int .i64 K, .int .i64 I, .int .u32 G] 25))))
              have HBr := Lib.hid (bel2 HB.out (bel_new wr (.cells #[.int .i64 K, .int .i64 I, .int .u32 G] 25)))
              have HKB := Lib.hid (Bk.new wr 25 #[.int .i64 K, .int .i64 I, .int .u32 G])
              clear hKO hM hF hD0 hEE hDD HUC HKO
              go_wp2_with fail
              clear e0 e1 e2
              refine (HF1.out _ HPr.out).mono ?_
              generalize wr.alloc (.cells #[.int .i64 K, .int .i64 I, .int .u32 G] 25) = w9 at *
              generalize wr.heap.size = kb at *
              rintro e w10 ⟨rfl, hb10⟩
              have hb11 := bel2 hb10 (bel_new w10 (.cells #[.int .i64 F.t, .int .i64 F.k, .int .i64 F.i, .int .u32 F.g, .int .i64 F.y, .int .i64 F.n] 32))
              have HPs := Lib.hid (HPr.out.below hb11)
              have HBs := Lib.hid (bel2 HBr.out hb11)
              have HKs := Lib.hid (HKB.out.below hb11)
              have HFs := Lib.hid (Bk.new w10 32 #[.int .i64 F.t, .int .i64 F.k, .int .i64 F.i, .int .u32 F.g, .int .i64 F.y, .int .i64 F.n])
              clear hb10 hb11 HPr HBr HKB HF1
              have d0 := HKs.out.cell 0
              have d1 := HKs.out.cell 1
              have d2 := HKs.out.cell 2
              go_wp2_with fail
              clear d0 d1 d2
              refine (HF2.out _ HPs.out).mono ?_
              generalize w10.alloc (.cells #[.int .i64 F.t, .int .i64 F.k, .int .i64 F.i, .int .u32 F.g, .int .i64 F.y, .int .i64 F.n] 32) = w11 at *
              generalize w10.heap.size = fb at *
              rintro e w12 ⟨rfl, hb12⟩
              have hb13 := bel2 hb12 (bel_new w12 (.cells #[.int .i64 F.t, .int .i64 F.k, .int .i64 F.i, .int .u32 F.g, .int .i64 F.y, .int .i64 F.n] 32))
              have HPt := Lib.hid (HPs.out.below hb13)
              have HBt := Lib.hid (bel2 HBs.out hb13)
              have HKt := Lib.hid (HKs.out.below hb13)
              have HFt := Lib.hid (HFs.out.below hb13)
              have HGt := Lib.hid (Bk.new w12 32 #[.int .i64 F.t, .int .i64 F.k, .int .i64 F.i, .int .u32 F.g, .int .i64 F.y, .int .i64 F.n])
              clear hb12 hb13 HPs HBs HKs HFs HF2
              have d0 := HKt.out.cell 0
              have d1 := HKt.out.cell 1
              have d2 := HKt.out.cell 2
              go_wp2_with fail
              clear d0 d1 d2
              refine (HE1.out _ HPt.out).mono ?_
              generalize w12.alloc (.cells #[.int .i64 F.t, .int .i64 F.k, .int .i64 F.i, .int .u32 F.g, .int .i64 F.y, .int .i64 F.n] 32) = w13 at *
              generalize w12.heap.size = gb at *
              rintro e w14 ⟨rfl, hb14⟩
              have HPv := Lib.hid (HPt.out.below hb14)
              have HBv := Lib.hid (bel2 HBt.out hb14)
              have HKv := Lib.hid (HKt.out.below hb14)
              have HFv := Lib.hid (HFt.out.below hb14)
              have HGv := Lib.hid (HGt.out.below hb14)
              clear hb14 HPt HBt HKt HFt HGt HE1
              have d0 := HKv.out.cell 0
              have d1 := HKv.out.cell 1
              have d2 := HKv.out.cell 2
              go_wp2_with fail
              clear d0 d1 d2
              refine (HE2.out _ HPv.out).mono ?_
              rintro e w15 ⟨rfl, hb15⟩
              have HPx := Lib.hid (HPv.out.below hb15)
              have HBx := Lib.hid (bel2 HBv.out hb15)
              have HKx := Lib.hid (HKv.out.below hb15)
              have HFx := Lib.hid (HFv.out.below hb15)
              have HGx := Lib.hid (HGv.out.below hb15)
              clear hb15 HPv HBv HKv HFv HGv HE2
              go_wp2
              have HS : Hid (∀ W, Below w15.heap.size w15 W → (W.cell? ⟨kb, 0, none⟩ = some (.int .i64 K) ∧ W.cell? ⟨kb, 1, none⟩ = some (.int .i64 I) ∧ W.cell? ⟨kb, 2, none⟩ = some (.int .u32 G) ∧ W.cell? ⟨fb, 0, none⟩ = some (.int .i64 F.t) ∧ W.cell? ⟨fb, 1, none⟩ = some (.int .i64 F.k) ∧ W.cell? ⟨fb, 2, none⟩ = some (.int .i64 F.i) ∧ W.cell? ⟨fb, 3, none⟩ = some (.int .u32 F.g) ∧ W.cell? ⟨fb, 4, none⟩ = some (.int .i64 F.y) ∧ W.cell? ⟨fb, 5, none⟩ = some (.int .i64 F.n) ∧ W.cell? ⟨gb, 0, none⟩ = some (.int .i64 F.t) ∧ W.cell? ⟨gb, 1, none⟩ = some (.int .i64 F.k) ∧ W.cell? ⟨gb, 2, none⟩ = some (.int .i64 F.i) ∧ W.cell? ⟨gb, 3, none⟩ = some (.int .u32 F.g) ∧ W.cell? ⟨gb, 4, none⟩ = some (.int .i64 F.y) ∧ W.cell? ⟨gb, 5, none⟩ = some (.int .i64 F.n))) := fun W hW => by
                have h1 := HKx.out.below hW
                have h2 := HFx.out.below hW
                have h3 := HGx.out.below hW
                exact ⟨h1.cell 0, h1.cell 1, h1.cell 2, h2.cell 0, h2.cell 1, h2.cell 2, h2.cell 3, h2.cell 4, h2.cell 5, h3.cell 0, h3.cell 1, h3.cell 2, h3.cell 3, h3.cell 4, h3.cell 5⟩
              have HQ0 : Hid (Below w15.heap.size w15 w15.drew) := bel_drew (Below.refl _ _)
              have hz0 := HS.out _ HQ0.out
              go_region_held3 (fun W => W.cell? ⟨kb, 0, none⟩ = some (.int .i64 K) ∧ W.cell? ⟨kb, 1, none⟩ = some (.int .i64 I) ∧ W.cell? ⟨kb, 2, none⟩ = some (.int .u32 G) ∧ W.cell? ⟨fb, 0, none⟩ = some (.int .i64 F.t) ∧ W.cell? ⟨fb, 1, none⟩ = some (.int .i64 F.k) ∧ W.cell? ⟨fb, 2, none⟩ = some (.int .i64 F.i) ∧ W.cell? ⟨fb, 3, none⟩ = some (.int .u32 F.g) ∧ W.cell? ⟨fb, 4, none⟩ = some (.int .i64 F.y) ∧ W.cell? ⟨fb, 5, none⟩ = some (.int .i64 F.n) ∧ W.cell? ⟨gb, 0, none⟩ = some (.int .i64 F.t) ∧ W.cell? ⟨gb, 1, none⟩ = some (.int .i64 F.k) ∧ W.cell? ⟨gb, 2, none⟩ = some (.int .i64 F.i) ∧ W.cell? ⟨gb, 3, none⟩ = some (.int .u32 F.g) ∧ W.cell? ⟨gb, 4, none⟩ = some (.int .i64 F.y) ∧ W.cell? ⟨gb, 5, none⟩ = some (.int .i64 F.n)) (first | (with_reducible exact hza) | (with_reducible exact hzb) | (with_reducible exact hzc) | (with_reducible exact hzd) | exact hz0)
                (first
                | (go_at_call 27; (with_reducible refine at_w w15.drew ?_); refine (HO1.out _ (HPx.out.below HQ0.out)).mono ?_; rintro e wa ⟨va, rfl, hoa, hba⟩; obtain ⟨pa, na, ca, rfl⟩ : ∃ pa na ca, va = .slice pa na ca := (by obtain ⟨q, k, h⟩ := rd_slice (RdA.of_own hoa); exact ⟨_, _, _, h⟩); have HQa := Lib.hid (bel2 HQ0.out hba); have HRa := Lib.hid (RdA.of_own hoa); have hza := HS.out _ HQa.out; clear hoa hba hz0)
                | (go_at_call 28; (with_reducible refine at_w wa ?_); refine (HO2.out _ (HPx.out.below HQa.out)).mono ?_; rintro e wc ⟨vc, rfl, hoc, hbc⟩; obtain ⟨pc, nc, cc, rfl⟩ : ∃ pa na ca, vc = .slice pa na ca := (by obtain ⟨q, k, h⟩ := rd_slice (RdA.of_own hoc); exact ⟨_, _, _, h⟩); have HQc := Lib.hid (bel2 HQa.out hbc); have HRc := Lib.hid (HRa.out.below hbc); have HTc := Lib.hid (RdA.of_own hoc); have hzc := HS.out _ HQc.out; clear hoc hbc hza)
                | (go_at_call 28; (with_reducible refine at_w w15.drew ?_); refine (HO2.out _ (HPx.out.below HQ0.out)).mono ?_; rintro e wb ⟨vb, rfl, hob2, hbb⟩; obtain ⟨pb, nb, cb, rfl⟩ : ∃ pa na ca, vb = .slice pa na ca := (by obtain ⟨q, k, h⟩ := rd_slice (RdA.of_own hob2); exact ⟨_, _, _, h⟩); have HQb := Lib.hid (bel2 HQ0.out hbb); have HTb := Lib.hid (RdA.of_own hob2); have hzb := HS.out _ HQb.out; clear hob2 hbb hz0)
                | (go_at_call 27; (with_reducible refine at_w wb ?_); refine (HO1.out _ (HPx.out.below HQb.out)).mono ?_; rintro e wc ⟨vc, rfl, hoc, hbc⟩; obtain ⟨pc, nc, cc, rfl⟩ : ∃ pa na ca, vc = .slice pa na ca := (by obtain ⟨q, k, h⟩ := rd_slice (RdA.of_own hoc); exact ⟨_, _, _, h⟩); have HQc := Lib.hid (bel2 HQb.out hbc); have HTc := Lib.hid (HTb.out.below hbc); have HRc := Lib.hid (RdA.of_own hoc); have hzc := HS.out _ HQc.out; clear hoc hbc hzb)
                | (go_at_call 26; refine (equal_yes _ _ _ _ _ _ M _ HRc.out HTc.out).mono ?_; rintro e wd ⟨rfl, hbd⟩; have HQd := Lib.hid (bel2 HQc.out hbd); have hzd := HS.out _ HQd.out; clear hbd hzc))
              all_goals
                clear hzd
                have Hb := Lib.hid (bel2 HBx.out HQd.out)
                clear HS HQ0 HQd
                go_wp2
                go_roundw
                case rel => exact ⟨r + 1, by omega, by go_num, Hb.out⟩
                case measure => simp [intOf]; omega
            · obtain rfl : r = 2 := by omega
              clear hrl HUC
              have HPr := Lib.hid (HPu.out.below HB.out)
              obtain ⟨LN, hLN⟩ : ∃ LN, L2.length = LN := ⟨_, rfl⟩
              have HLN : Hid (∀ W, PlW w W b bk lo rb rve rlo L2 L2 → Calls Tryz.prog 29 #[.pointer (some ⟨b, 0, none⟩)] W fun e w' => e = .returned (.int .i64 LN) ∧ W = w') := fun W hW => by rw [← hLN]; exact len_ok b bk lo L2 W hW.led
              have HRN : Hid (∀ W, PlW w W b bk lo rb rve rlo L2 L2 → Calls Tryz.prog 30 #[.pointer (some ⟨rb, 0, none⟩)] W fun e w' => e = .returned (.int .i64 LN) ∧ Below W.heap.size W w') := fun W hW => by rw [← hLN]; exact rlen_ok rb rlo rve L2 W hW.ref
              clear hLN
              go_wp2_with fail
              refine (HLN.out _ HPr.out).mono ?_
              rintro e w' ⟨rfl, rfl⟩
              go_wp2_with fail
              refine (HRN.out _ HPr.out).mono ?_
              rintro e w10 ⟨rfl, hb10⟩
              have HPs := Lib.hid (HPr.out.below hb10)
              clear hb10 HPr HLN HRN
              go_wp2_with fail
              refine (all_ok b bk lo L2 _ HPs.out.led).mono ?_
              rintro e w11 ⟨v, rfl, ho, hb11⟩
              obtain ⟨pa, na, ca, rfl⟩ : ∃ pa na ca, v = .slice pa na ca := by obtain ⟨q, k, h⟩ := rd_slice (RdA.of_own ho); exact ⟨_, _, _, h⟩
              have HPt := Lib.hid (HPs.out.below hb11)
              have HRt := Lib.hid (RdA.of_own ho)
              clear ho hb11 HPs
              go_wp2_with fail
              refine (rall_ok rb rlo rve L2 _ HPt.out.ref).mono ?_
              rintro e w12 ⟨v, rfl, ho, hb12⟩
              obtain ⟨pc, nc, cc, rfl⟩ : ∃ pa na ca, v = .slice pa na ca := by obtain ⟨q, k, h⟩ := rd_slice (RdA.of_own ho); exact ⟨_, _, _, h⟩
              have HPv := Lib.hid (HPt.out.below hb12)
              have HRv := Lib.hid (HRt.out.below hb12)
              have HTv := Lib.hid (RdA.of_own ho)
              clear ho hb12 HPt HRt
              go_wp2_with fail
              refine (equal_yes _ _ _ _ _ _ L2 _ HRv.out HTv.out).mono ?_
              rintro e w13 ⟨rfl, hb13⟩
              have HPx := Lib.hid (HPv.out.below hb13)
              clear hb13 HPv HRv HTv
              go_wp2
              go_roundw
              case rel => exact ⟨j + 1, b, bk, lo, rlo, rve, by omega, rfl, by go_num, by rw [HL2.out]; exact HPx.out⟩
              case measure => simp [intOf]; omega
    · obtain rfl : j = n := by omega
      clear hlt
      go_wp2_with fail
      refine (works_ok _ (HE.out.below HP.out.bel)).mono ?_
      rintro e w9 ⟨rfl, hb9⟩
      have HB9 := Lib.hid (bel2 HB0.out (bel2 HP.out.bel hb9))
      clear hb9
      go_wp2
      go_ret
      exact ⟨rfl, HB9.out⟩
theorem lPla_walk (a : Option Addr) (n c : Nat) (l : List Att) (k i g : Int) (cp : Int) (w : World) (hr : RdA w (.slice a n c) l) (hg : AllRg l) (ho : Rg k i g) (h0 : 0 ≤ cp) (h1 : cp ≤ 255) (he : EnvL w) :
    Calls Tryz.prog 3 #[.slice a n c, .agg #[.int .i64 k, .int .i64 i, .int .u32 g], .int .u8 cp] w fun e w' => e = .returned (.bool true) ∧ Below w.heap.size w w' := by
  obtain ⟨cp, rfl⟩ := Int.eq_ofNat_of_zero_le h0
  obtain ⟨q1, q2, q3, q4, q5, q6⟩ := ho
  exact lPla_nat a n c l k i g cp w hr hg ⟨q1, q2, q3, q4, q5, q6⟩ (by omega) he
end Go.Proofs.YtenggngcigkakaaGreatDoor
