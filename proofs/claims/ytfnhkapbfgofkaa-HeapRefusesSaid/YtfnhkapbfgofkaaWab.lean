/- The contract of the model's agrees: it returns true and changes nothing of the model. -/
import Derived.Test.YtfnhkapbfgofkaaWaa
import Derived.Test.YtfnhkapbfgofkaaWl
import Derived.Deep.Cut
import Derived.Deep.CutBlock
import Derived.Deep.RegionHeld3
namespace Go.Proofs.Ytfnhkapbfgofkaa
open Go.RowKit

theorem freed_not {H : Hp} {r : Rf} (h : H.chk r ≠ 0) : H.freed r = H := by
  have e : H.t.given r.1 r.2 = H.t := by
    unfold Tb.given
    rw [if_neg (show ¬ H.t.chk r.1 r.2 = 0 from h)]
  unfold Hp.freed
  rw [e]
theorem bel_put10 {B : Nat} {w W : World} (h : Below B w W) {c : Nat} (hc : B ≤ c) (o : Ob) : Below B w (put10 W c 0 o) :=
  (((((((((h.setCell (p := ⟨c, 0, none⟩) hc _).setCell (p := ⟨c, 1, none⟩) hc _).setCell (p := ⟨c, 2, none⟩) hc _).setCell (p := ⟨c, 3, none⟩) hc _).setCell (p := ⟨c, 4, none⟩) hc _).setCell (p := ⟨c, 5, none⟩) hc _).setCell (p := ⟨c, 6, none⟩) hc _).setCell (p := ⟨c, 7, none⟩) hc _).setCell (p := ⟨c, 8, none⟩) hc _).setCell (p := ⟨c, 9, none⟩) hc _
theorem kept_no {w w' : World} (h : Below w.heap.size w w') : Kept (fun _ => False) w w' := Kept.of_below h
theorem kept_bel {w w' : World} (h : Kept (fun _ => False) w w') : Below w.heap.size w w' := h.below (Nat.le_refl _) fun _ e => e.elim
set_option maxHeartbeats 8000000 in
set_option maxRecDepth 100000 in
theorem agrees_mb {w0 w : World} {mb b p t M e n f k : Nat} {H : Hp} {pR : Option Addr} {qR cR : Nat} {R : List (Nat × Nat)} {pQ : Option Addr} {qQ cQ : Nat} {Q : List (Nat × Nat)} {N : Nat × Nat → Option (List Rf)} {P : Pl}
    (h : Mb w0 w mb b p t M e H pR qR cR R pQ qQ cQ Q N P) (hm : Mo H n f k R Q N) (hk : k ≤ 200) :
    Calls Try.prog 33 #[.pointer (some ⟨mb, 0, none⟩)] w fun e' w' => e' = .returned (.bool true) ∧ Hid (Mb w0 w' mb b p t M e H pR qR cR R pQ qQ cQ Q N P) := by
  have HM := Lib.hid h
  have MO := Lib.hid hm
  have hqR : qR ≤ 200 := by have := hm.rl; have := h.lR; omega
  have hqQ : qQ ≤ 200 := by have := hm.ql; have := h.lQ; omega
  clear h hm
  go_enter Try.func33, Try.ntmps33
  go_wp2_with fail
  go_loopw [3] (fun v wx => ∃ y : Nat, y ≤ qR ∧ v = .int .i64 y ∧ Hid (Below w.heap.size w wx)) (fun v _ => qR - (intOf v).toNat)
  case atStart => exact ⟨0, Nat.zero_le _, rfl, Below.refl _ _⟩
  case round =>
    obtain ⟨y, hy, rfl, HB⟩ := hrel
    obtain ⟨wA, hwA⟩ : ∃ wA, wA = wr := ⟨_, rfl⟩
    subst hwA
    have hM := HM.out.quiet HB.out
    have m0 : wA.cell? ⟨mb, 0, none⟩ = some (.pointer (some ⟨b, 0, none⟩)) := hM.bm.cell 0
    have m1 : wA.cell? ⟨mb, 1, none⟩ = some (.map (some M)) := hM.bm.cell 1
    have m2 : wA.cell? ⟨mb, 2, none⟩ = some (.slice pR qR cR) := hM.bm.cell 2
    have m3 : wA.cell? ⟨mb, 3, none⟩ = some (.slice pQ qQ cQ) := hM.bm.cell 3
    by_cases hyl : y < qR
    · obtain ⟨⟨ri, rg⟩, hr⟩ : ∃ r, R[y]? = some r := ⟨_, List.getElem?_eq_getElem (by rw [hM.lR]; exact hyl)⟩
      have hrm : (ri, rg) ∈ R := List.mem_of_getElem? hr
      obtain ⟨g, rfl, hqc, hcm, bg, _, hcl⟩ := row_at hM.rR hM.lR (by omega)
      obtain ⟨r0, r1⟩ := hcl y (ri, rg) hr
      simp only at r0 r1
      have hN := MO.out.val _ hrm
      have hpo := MO.out.poss hrm
      have hck : H.chk ((ri : Int), (rg : Int)) = 0 := MO.out.chk hrm
      obtain ⟨x, l, hP⟩ : ∃ x l, P (ri, rg) = some (x, l) := by
        cases c : P (ri, rg) with
        | none => have := hM.fd.no _ c; rw [hN] at this; cases this
        | some x => exact ⟨x.1, x.2, rfl⟩
      obtain ⟨L, g1, g2, g3, g4, g5, g6, RG⟩ := hM.fd.yes _ _ _ hP
      obtain rfl : (H.o ri).flds = L := by rw [hN] at g1; exact Option.some.inj g1
      have hfl := flds_len hpo
      have hn4 := hpo.n4
      have hn0 := hpo.n0
      rw [g2] at hfl
      have hl4 : l ≤ 4 := by omega
      have lk : ∀ W : World, W.heap = wA.heap → (Instr.lookup 66 (.map (some M)) (.agg #[.int .i64 (ri : Nat), .int .u32 (rg : Nat)]) false).run Try.prog W = .ok (.slice (some ⟨x, 0, none⟩) l l) W := fun W hW => by
        have := (MapF.same (w' := W) hM.mp (by rw [hW])).look RG
        rw [hP] at this
        exact this
      have lk0 := lk wA rfl
      have lk1 := lk wA.drew rfl
      have lk2 : ∀ n, _ := fun n => lk (wA.drewN n) rfl
      obtain ⟨o, ho⟩ : ∃ o, H.o ri = o := ⟨_, rfl⟩
      rw [ho] at hpo hfl hn4 hn0 g2 g3 hN
      -- what the heap and the fields' block show
      have OBJ : Hid (∀ X, Below w.heap.size w X → Calls Try.prog 26 #[.pointer (some ⟨b, 0, none⟩), .agg #[.int .i64 (ri : Nat), .int .u32 (rg : Nat)]] X fun e' w' => e' = .returned (.tuple #[.agg #[.int .i64 o.n, .int .i64 o.a.1, .int .u32 o.a.2, .int .i64 o.b.1, .int .u32 o.b.2, .int .i64 o.c.1, .int .u32 o.c.2, .int .i64 o.d.1, .int .u32 o.d.2, .bool o.h], .int .i64 0]) ∧ Below X.heap.size X w') := fun X hX =>
        obj_s (ri : Int) (rg : Int) o 0 ((HM.out.quiet hX).st) (by unfold Hp.obj; rw [if_pos hck]; rw [H.at_nat, ho]) hck
      have HAS : Hid (∀ X, Below w.heap.size w X → Calls Try.prog 27 #[.pointer (some ⟨b, 0, none⟩), .agg #[.int .i64 (ri : Nat), .int .u32 (rg : Nat)]] X fun e' w' => e' = .returned (.bool true) ∧ Below X.heap.size X w') := fun X hX =>
        has_s (ri : Int) (rg : Int) true ((HM.out.quiet hX).st) (by have : H.chk ((ri : Int), (rg : Int)) = 0 := hck; rw [this]; rfl)
      have LOA : Hid (∀ X, Below w.heap.size w X → ∀ j : Nat, j < 4 → Calls Try.prog 18 #[.pointer (some ⟨b, 0, none⟩), .agg #[.int .i64 (ri : Nat), .int .u32 (rg : Nat)], .int .i64 (j : Nat)] X fun e' w' => e' = .returned (.tuple #[.agg #[.int .i64 (if j < l then o.fld j else (0, 0)).1, .int .u32 (if j < l then o.fld j else (0, 0)).2], .int .i64 (if j < l then 0 else 3)]) ∧ Below X.heap.size X w') := fun X hX j hj => by
        by_cases c : j < l
        · obtain ⟨a1, a2⟩ := Hp.load_yes (H := H) (i := ri) (g := (rg : Int)) (k := (j : Int)) hck (by rw [ho]; exact hpo) ⟨by omega, by rw [ho]; omega⟩
          rw [ho, Int.toNat_natCast] at a2
          rw [if_pos c, if_pos c]
          exact load_s (ri : Int) (rg : Int) j _ 0 (HM.out.quiet hX).st ⟨by omega, by omega⟩ a2 a1
        · obtain ⟨a1, a2⟩ := Hp.load_out (H := H) (i := ri) (g := (rg : Int)) (k := (j : Int)) hck (by rw [ho]; exact hpo) (.inr (by rw [ho]; omega))
          rw [if_neg c, if_neg c]
          exact load_s (ri : Int) (rg : Int) j _ 3 (HM.out.quiet hX).st ⟨by omega, by omega⟩ a2 a1
      have CE : Hid (∀ X, Below wA.heap.size wA X → X.cell? ⟨mb, 0, none⟩ = some (.pointer (some ⟨b, 0, none⟩)) ∧ X.cell? ⟨mb, 2, none⟩ = some (.slice (some ⟨g, 0, none⟩) qR cR) ∧ X.cell? ⟨g, y * 2, none⟩ = some (.int .i64 (ri : Nat)) ∧ X.cell? ⟨g, y * 2 + 1, none⟩ = some (.int .u32 (rg : Nat))) := fun X hX =>
        ⟨cell_stays hX m0, cell_stays hX m2, cell_stays hX r0, cell_stays hX r1⟩
      have FX : Hid (∀ X, Below wA.heap.size wA X → ∀ j, j < l → X.cell? ⟨x, j * 2, none⟩ = some (.int .i64 (o.fld j).1) ∧ X.cell? ⟨x, j * 2 + 1, none⟩ = some (.int .u32 (o.fld j).2)) := fun X hX j hj => by
        have hb := g3.below hX
        have hjL : j < o.flds.length := by rw [g2]; exact hj
        have ej : o.flds[j] = o.fld j := by
          have := flds_at (o := o) hjL
          rw [List.getElem?_eq_getElem hjL] at this
          exact Option.some.inj this
        have xc : ∀ k, k < 2 → X.cell? ⟨x, j * 2 + k, none⟩ = (rcl (o.fld j))[k]? := fun k hk => by
          rw [hb.cell, List.getElem?_toArray, rcls_at _ j hjL k hk, ej]
        exact ⟨xc 0 (by decide), xc 1 (by decide)⟩
      have ON := Lib.hid hfl
      clear hM hcl hr hrm hN hP g1 g2 g3 g4 g5 g6 RG hfl hn4 hn0 hpo hck ho lk
      go_upto_region 4 with fail
      go_quiet (fail)
      go_upto_region 5 with fail
      generalize hwy : wA.drewN _ = wy
      have hd : Below wA.heap.size wA wy := by rw [← hwy]; exact bel_drn wA _
      have HD := Lib.hid hd
      clear hwy lk0 lk1 lk2 hd
      go_cut [5, 6] from 33 to 46 (fun v5 v6 wx => ∃ B5 : Nat, v5 = .pointer (some ⟨B5, 0, none⟩) ∧ v6 = .int .i64 0 ∧ Hid (Below wA.heap.size wA wx ∧ Bk wx B5 53 (obc o)))
      case first =>
        refine ag5_region mb b g qR cR y ri rg hyl (S := fun _ => False) (Z1 := fun X => Below wy.heap.size wy X) (Z2 := fun X => Below wy.heap.size wy X) o 0 rfl rfl rfl (bel_dr wy) (fun _ _ h => h.alloc h.size _) (fun _ _ h => h.alloc h.size _) (fun _ _ o hc _ h => bel_put10 h hc o) (fun _ h => h.elim) (fun X hX => CE.out X (HD.out.trans ((kept_bel hX).mono HD.out.size))) (fun X hX => (OBJ.out X (HB.out.trans ((HD.out.trans (hX.mono HD.out.size)).mono HB.out.size))).mono fun e' w' h => ⟨h.1, hX.trans (h.2.mono hX.size), Kept.of_below h.2⟩) ?_
        intro us B5 wx hk hz hb hl hu
        simp [frm, List.range, List.range.loop, ag5D, ag5H, hu]
        go_wp2_with fail
        go_meet
        exact ⟨B5, rfl, rfl, HD.out.trans (hz.mono HD.out.size), hb⟩
      case rest =>
        obtain ⟨B5, rfl, rfl, HX⟩ := hcut
        obtain ⟨wb, hwb⟩ : ∃ wb, wb = wc := ⟨_, rfl⟩
        subst hwb
        have CB : Hid (∀ X, Below wb.heap.size wb X → X.cell? ⟨B5, 0, none⟩ = some (.int .i64 l) ∧ X.cell? ⟨mb, 0, none⟩ = some (.pointer (some ⟨b, 0, none⟩)) ∧ X.cell? ⟨mb, 2, none⟩ = some (.slice (some ⟨g, 0, none⟩) qR cR) ∧ X.cell? ⟨g, y * 2, none⟩ = some (.int .i64 (ri : Nat)) ∧ X.cell? ⟨g, y * 2 + 1, none⟩ = some (.int .u32 (rg : Nat))) := fun X hX => by
          have q := (HX.out.2.below hX).ob.1
          rw [← ON.out] at q
          exact ⟨q, CE.out X (HX.out.1.trans (hX.mono HX.out.1.size))⟩
        obtain ⟨c0, c1, c2, c3, c4⟩ := CB.out wb (Below.refl _ _)
        go_upto_region 6 with fail
        go_region_held3 (fun X => X.cell? ⟨B5, 0, none⟩ = some (.int .i64 l) ∧ X.cell? ⟨mb, 0, none⟩ = some (.pointer (some ⟨b, 0, none⟩)) ∧ X.cell? ⟨mb, 2, none⟩ = some (.slice (some ⟨g, 0, none⟩) qR cR) ∧ X.cell? ⟨g, y * 2, none⟩ = some (.int .i64 (ri : Nat)) ∧ X.cell? ⟨g, y * 2 + 1, none⟩ = some (.int .u32 (rg : Nat))) (first | (with_reducible assumption) | exact CB.out _ (bel_dr wb)) (first
          | (go_at_call 27; refine (HAS.out _ (HB.out.trans ((HX.out.1.trans ((bel_dr wb).mono HX.out.1.size)).mono HB.out.size))).mono ?_; rintro e' w6 ⟨rfl, hb6⟩; have B6 := Lib.hid ((bel_dr wb).trans (hb6.mono (bel_dr wb).size)); have hz6 := CB.out _ ((bel_dr wb).trans (hb6.mono (bel_dr wb).size)); clear hb6))
        clear c0 c1 c2 c3 c4
        obtain ⟨c0, c1, c2, c3, c4⟩ := hz6
        have G6 : Hid (Below wA.heap.size wA w6 ∧ Bk w6 B5 53 (obc o)) := ⟨HX.out.1.trans (B6.out.mono HX.out.1.size), HX.out.2.below B6.out⟩
        go_wp2_with fail
        go_loopw [7] (fun v wx => ∃ j : Nat, j ≤ 4 ∧ v = .int .i64 j ∧ Hid (Below w6.heap.size w6 wx)) (fun v _ => 4 - (intOf v).toNat)
        case atStart => exact ⟨0, by omega, rfl, Below.refl _ _⟩
        case round =>
          obtain ⟨j, hj, rfl, HJ⟩ := hrel
          obtain ⟨wi, hwi⟩ : ∃ wi, wi = wr := ⟨_, rfl⟩
          subst hwi
          have hAi : Below wA.heap.size wA wi := G6.out.1.trans (HJ.out.mono G6.out.1.size)
          have AI := Lib.hid hAi
          clear c0 c1 c2 c3 c4 hAi
          obtain ⟨c1, c2, c3, c4⟩ := CE.out wi AI.out
          by_cases hj4 : j < 4
          · have hwj : IntKind.i64.wrap ((j : Int) + 1) = (j : Int) + 1 := by rw [IntKind.wrap_i64]; omega
            obtain ⟨E, hE⟩ : ∃ E : Int, (if j < l then 0 else 3) = E := ⟨_, rfl⟩
            obtain ⟨qv, hqv⟩ : ∃ qv : Rf, (if j < l then o.fld j else (0, 0)) = qv := ⟨_, rfl⟩
            have LJ : Hid (∀ X, Below w.heap.size w X → Calls Try.prog 18 #[.pointer (some ⟨b, 0, none⟩), .agg #[.int .i64 (ri : Nat), .int .u32 (rg : Nat)], .int .i64 (j : Nat)] X fun e' w' => e' = .returned (.tuple #[.agg #[.int .i64 qv.1, .int .u32 qv.2], .int .i64 E]) ∧ Below X.heap.size X w') := fun X hX => by
              have := LOA.out X hX j hj4
              rw [hE, hqv] at this
              exact this
            have EQ := Lib.hid (And.intro hE hqv)
            clear hE hqv
            go_upto_region 11 with fail
            go_cut [8, 9] from 75 to 90 (fun v8 v9 wx => ∃ B8 : Nat, v8 = .pointer (some ⟨B8, 0, none⟩) ∧ v9 = .int .i64 E ∧ Hid (Below wi.heap.size wi wx ∧ Bk wx B8 34 (rfc qv)))
            case first =>
              refine ag11_region mb b g qR cR y ri rg j hyl (S := fun _ => False) (Z1 := fun X => Below wi.heap.size wi X) (Z2 := fun X => Below wi.heap.size wi X) qv E rfl rfl rfl rfl (bel_dr wi) (fun _ _ h => h.alloc h.size _) (fun _ _ h => h.alloc h.size _) (fun _ c u v hc _ h => (h.setCell (p := ⟨c, 0, none⟩) hc u).setCell (p := ⟨c, 1, none⟩) hc v) (fun _ h => h.elim) (fun X hX => CE.out X (AI.out.trans ((kept_bel hX).mono AI.out.size))) (fun X hX => (LJ.out X (HB.out.trans ((AI.out.trans (hX.mono AI.out.size)).mono HB.out.size))).mono fun e' w' h => ⟨h.1, hX.trans (h.2.mono hX.size), Kept.of_below h.2⟩) ?_
              intro us B8 wx hk hz hb hl hu
              simp [frm, List.range, List.range.loop, ag11D, ag11H, hu]
              go_wp2_with fail
              go_meet
              exact ⟨B8, rfl, rfl, hz, hb⟩
            case rest =>
              obtain ⟨B8, rfl, rfl, HY⟩ := hcut
              obtain ⟨wd, hwd⟩ : ∃ wd, wd = wc := ⟨_, rfl⟩
              subst hwd
              have hbo := (G6.out.2.below HJ.out).below HY.out.1
              have n0 : wd.cell? ⟨B5, 1 + j * 2, none⟩ = some (.int .i64 (o.fld j).1) := (hbo.cell _).trans (obc_s o j hj4)
              have n1 : wd.cell? ⟨B5, 1 + j * 2 + 1, none⟩ = some (.int .u32 (o.fld j).2) := (hbo.cell _).trans (obc_g o j hj4)
              have d0 : wd.cell? ⟨B8, 0, none⟩ = some (.int .i64 qv.1) := HY.out.2.cell 0
              have d1 : wd.cell? ⟨B8, 1, none⟩ = some (.int .u32 qv.2) := HY.out.2.cell 1
              have END : Hid (∀ m, Below w6.heap.size w6 (wd.drewN m)) := fun m => HJ.out.trans ((HY.out.1.trans ((bel_drn wd m).mono HY.out.1.size)).mono HJ.out.size)
              clear hbo
              obtain ⟨hE, hqv⟩ := EQ.out
              by_cases hjl : j < l
              · obtain ⟨x0, x1⟩ := FX.out wd (AI.out.trans (HY.out.1.mono AI.out.size)) j hjl
                rw [if_pos hjl] at hE hqv
                subst hE hqv
                obtain ⟨F1, hF1⟩ : ∃ F1, (o.fld j).1 = F1 := ⟨_, rfl⟩
                obtain ⟨F2, hF2⟩ : ∃ F2, (o.fld j).2 = F2 := ⟨_, rfl⟩
                rw [hF1] at n0 d0 x0
                rw [hF2] at n1 d1 x1
                have hlt : (j : Int) < (l : Int) := by omega
                have hge : ¬ (l : Int) ≤ (j : Int) := by omega
                clear hF1 hF2
                go_upto_region 12 with fail
                go_quiet (fail)
                go_wp2
                go_roundw
                case rel => exact ⟨j + 1, by omega, by go_num, END.out _⟩
                case measure => simp [intOf]; omega
              · rw [if_neg hjl] at hE hqv
                subst hE hqv
                simp only at d0 d1
                have hlt : ¬ (j : Int) < (l : Int) := by omega
                have hge : (l : Int) ≤ (j : Int) := by omega
                go_upto_region 12 with fail
                go_quiet (fail)
                go_wp2
                go_roundw
                case rel => exact ⟨j + 1, by omega, by go_num, END.out _⟩
                case measure => simp [intOf]; omega
          · obtain rfl : j = 4 := by omega
            have hwy : IntKind.i64.wrap ((y : Int) + 1) = (y : Int) + 1 := by rw [IntKind.wrap_i64]; omega
            go_wp2
            go_roundw
            case rel => exact ⟨y + 1, by omega, by go_num, HB.out.trans (AI.out.mono HB.out.size)⟩
            case measure => simp [intOf]; omega
    · obtain rfl : y = qR := by omega
      have HZ0 := Lib.hid hM
      clear hM
      go_wp2_with fail
      go_loopw [10] (fun v wz => ∃ z : Nat, z ≤ qQ ∧ v = .int .i64 z ∧ Hid (Mb w0 wz mb b p t M e H pR y cR R pQ qQ cQ Q N P)) (fun v _ => qQ - (intOf v).toNat)
      case atStart => exact ⟨0, Nat.zero_le _, rfl, HZ0.out⟩
      case round =>
        obtain ⟨z, hz, rfl, HZ⟩ := hrel
        obtain ⟨wz, hwz⟩ : ∃ wz, wz = wr := ⟨_, rfl⟩
        subst hwz
        clear m0 m1 m2 m3
        have hZ := HZ.out
        have m0 : wz.cell? ⟨mb, 0, none⟩ = some (.pointer (some ⟨b, 0, none⟩)) := hZ.bm.cell 0
        have m2 : wz.cell? ⟨mb, 2, none⟩ = some (.slice pR y cR) := hZ.bm.cell 2
        have m3 : wz.cell? ⟨mb, 3, none⟩ = some (.slice pQ qQ cQ) := hZ.bm.cell 3
        by_cases hzl : z < qQ
        · obtain ⟨⟨si, sg⟩, hr⟩ : ∃ r, Q[z]? = some r := ⟨_, List.getElem?_eq_getElem (by rw [hZ.lQ]; exact hzl)⟩
          have hck : H.chk ((si : Int), (sg : Int)) = 7 := MO.out.stale (List.mem_of_getElem? hr)
          obtain ⟨g, rfl, hqc, hcm, bg, ⟨cs, hcs⟩, hcl⟩ := row_at hZ.rQ hZ.lQ (by omega)
          obtain ⟨r0, r1⟩ := hcl z (si, sg) hr
          simp only at r0 r1
          have HAS : Hid (∀ X, HSt w0 X b p t H → Calls Try.prog 27 #[.pointer (some ⟨b, 0, none⟩), .agg #[.int .i64 (si : Nat), .int .u32 (sg : Nat)]] X fun e' w' => e' = .returned (.bool false) ∧ Below X.heap.size X w') := fun X hX =>
            has_s (si : Int) (sg : Int) false hX (by rw [hck]; rfl)
          have FRE : Hid (∀ X, HSt w0 X b p t H → Calls Try.prog 16 #[.pointer (some ⟨b, 0, none⟩), .agg #[.int .i64 (si : Nat), .int .u32 (sg : Nat)]] X fun e' w' => e' = .returned (.int .i64 7) ∧ HSt w0 w' b p t H ∧ Kept (HFoot b p t) X w') := fun X hX => by
            have := free_s (si : Int) (sg : Int) 7 hX hck
            rw [freed_not (by rw [hck]; decide)] at this
            exact this
          have KS : Hid (∀ X, Kept (HFoot b p t) wz X → X.cell? ⟨mb, 0, none⟩ = some (.pointer (some ⟨b, 0, none⟩)) ∧ X.cell? ⟨mb, 3, none⟩ = some (.slice (some ⟨g, 0, none⟩) qQ cQ) ∧ X.cell? ⟨g, z * 2, none⟩ = some (.int .i64 (si : Nat)) ∧ X.cell? ⟨g, z * 2 + 1, none⟩ = some (.int .u32 (sg : Nat))) := fun X hk => by
            have q1 := hZ.bm.kept hk hZ.fm
            have q2 := hcs.kept hk (hZ.ref hcs).1
            exact ⟨q1.cell 0, q1.cell 3, (q2.cell _).trans ((hcs.cell _).symm.trans r0), (q2.cell _).trans ((hcs.cell _).symm.trans r1)⟩
          have S0 : Hid (HSt w0 wz.drew b p t H) := hZ.st.quiet (bel_dr wz)
          clear hcl hr hck hcs hZ
          go_upto_region 17 with fail
          go_region_held3 (fun X => X.cell? ⟨mb, 0, none⟩ = some (.pointer (some ⟨b, 0, none⟩)) ∧ X.cell? ⟨mb, 3, none⟩ = some (.slice (some ⟨g, 0, none⟩) qQ cQ) ∧ X.cell? ⟨g, z * 2, none⟩ = some (.int .i64 (si : Nat)) ∧ X.cell? ⟨g, z * 2 + 1, none⟩ = some (.int .u32 (sg : Nat))) (first | (with_reducible assumption) | exact KS.out _ (Kept.refl _ wz).drew) (first
            | (go_at_call 16; refine (FRE.out _ S9.out).mono ?_; rintro e' w10 ⟨rfl, hs10, hk10⟩; have S10 := Lib.hid hs10; have HK10 := Lib.hid (HK9.out.trans hk10); have hz10 := KS.out _ HK10.out; clear hs10 hk10)
            | (go_at_call 27; refine (HAS.out _ S0.out).mono ?_; rintro e' w9 ⟨rfl, hb9⟩; have S9 := Lib.hid (S0.out.quiet hb9); have HK9 := Lib.hid ((Kept.refl (HFoot b p t) wz).drew.trans (Kept.of_below hb9)); have hz9 := KS.out _ HK9.out; clear hb9))
          go_wp2
          go_roundw
          case rel => exact ⟨z + 1, by omega, by go_num, HZ.out.heap HK10.out S10.out⟩
          case measure => simp [intOf]; omega
        · obtain rfl : z = qQ := by omega
          have hlen : H.t.held.length = y := by rw [← MO.out.len]; exact hZ.lR
          have LN : Hid (∀ X, Below wz.heap.size wz X → Calls Try.prog 29 #[.pointer (some ⟨b, 0, none⟩)] X fun e' w' => e' = .returned (.int .i64 y) ∧ Below X.heap.size X w') := fun X hX => len_s y (HZ.out.quiet hX).st hlen
          have AL : Hid (∀ X, Below wz.heap.size wz X → Calls Try.prog 28 #[.pointer (some ⟨b, 0, none⟩)] X fun e' w' => ∃ p1 c1, e' = .returned (.slice p1 y c1) ∧ Below X.heap.size X w') := fun X hX => by
            refine (all_s _ (HZ.out.quiet hX).st rfl).mono ?_
            rintro e' w' ⟨v, rfl, hrow, _, hb6⟩
            obtain ⟨pA, cA, rfl⟩ := own_ref hrow
            exact ⟨pA, cA, by rw [H.t.now_len, hlen], hb6⟩
          have KS : Hid (∀ X, Below wz.heap.size wz X → X.cell? ⟨mb, 0, none⟩ = some (.pointer (some ⟨b, 0, none⟩)) ∧ X.cell? ⟨mb, 2, none⟩ = some (.slice pR y cR)) := fun X hX => ⟨cell_stays hX m0, cell_stays hX m2⟩
          clear hlen hZ
          go_upto_region 19 with fail
          go_region_held3 (fun X => X.cell? ⟨mb, 0, none⟩ = some (.pointer (some ⟨b, 0, none⟩)) ∧ X.cell? ⟨mb, 2, none⟩ = some (.slice pR y cR)) (first | (with_reducible assumption) | exact KS.out _ (bel_dr wz)) (first
            | (go_at_call 28; refine (AL.out _ B9.out).mono ?_; rintro e' w10 ⟨p1, c1, rfl, hb10⟩; have B10 := Lib.hid (B9.out.trans (hb10.mono B9.out.size)); have hz10 := KS.out _ B10.out; clear hb10)
            | (go_at_call 29; refine (LN.out _ (bel_dr wz)).mono ?_; rintro e' w9 ⟨rfl, hb9⟩; have B9 := Lib.hid ((bel_dr wz).trans (hb9.mono (bel_dr wz).size)); have hz9 := KS.out _ B9.out; clear hb9))
          go_wp2
          go_ret
          exact ⟨rfl, HZ.out.quiet B10.out⟩
end Go.Proofs.Ytfnhkapbfgofkaa
