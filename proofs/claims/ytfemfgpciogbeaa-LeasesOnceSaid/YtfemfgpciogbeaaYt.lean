/- A move of the statements' desk: the way where a lease is granted. -/
import Derived.Test.YtfemfgpciogbeaaYq
namespace Go.Proofs.Ytfemfgpciogbeaa
open Go.RowKit

set_option maxRecDepth 1000000 in
set_option maxHeartbeats 4000000 in
theorem step_grant {w0 w : World} {X b k a cl cu n j : Nat} {pl pu : Option Addr} {okb : Bool} {S : Lw} (h : LW w0 w X b k a pl cl pu cu n okb j S) (hj : j ≤ 150) (mw mk mi mt : Nat) (_m1 : mw ≤ 255) (_m2 : mk ≤ 255) (_m3 : mi ≤ 255) (_m4 : mt ≤ 255) (hk : mk % 4 < 2 ∨ n = 0) (i : Nat) (q : List Nat) (hf : S.D.t.free = i :: q) :
    Calls Try.prog 34 #[.pointer (some ⟨X, 0, none⟩), .agg #[.int .u8 mw, .int .u8 mk, .int .u8 mi, .int .u8 mt]] w fun e w' => e = .returned (.bool true) ∧ Hid (StP w0 w X b k a pl pu okb (j + 1) S w') := by
  have h1 := h.quiet (bal w (.cells #[.int .u8 mw, .int .u8 mk, .int .u8 mi, .int .u8 mt] 68))
  obtain ⟨c0, c1, c2, c3, c4, c5⟩ := h1.cells
  have f3 := h1.fz 3
  have hbox := Bk.new w 68 #[.int .u8 mw, .int .u8 mk, .int .u8 mi, .int .u8 mt]
  have b0 := hbox.cell 0
  simp only [List.getElem?_toArray, List.getElem?_cons_zero] at b0
  have hnow := h.ok.now
  have hll := h.ok.ll
  have hln := h.ln
  obtain ⟨wt, hw⟩ : ∃ x, mw % 8 = x := ⟨_, rfl⟩
  obtain ⟨kd, hkd⟩ : ∃ x, mk % 4 = x := ⟨_, rfl⟩
  obtain ⟨tk, htk⟩ : ∃ x, mt % 16 = x := ⟨_, rfl⟩
  have w1 : (mw : Int).tmod 8 = (wt : Int) := by rw [← hw]; exact tmod_nat _ 8
  have w2 : (mw : Int) % 8 = (wt : Int) := by rw [← hw]; exact emod_nat _ 8
  have k1 : (mk : Int).tmod 4 = (kd : Int) := by rw [← hkd]; exact tmod_nat _ 4
  have k2 : (mk : Int) % 4 = (kd : Int) := by rw [← hkd]; exact emod_nat _ 4
  have t1 : (mt : Int).tmod 16 = (tk : Int) := by rw [← htk]; exact tmod_nat _ 16
  have t2 : (mt : Int) % 16 = (tk : Int) := by rw [← htk]; exact emod_nat _ 16
  have wb : (wt : Int) ≤ 7 := by omega
  have kb : (kd : Int) ≤ 3 := by omega
  have tb : (tk : Int) ≤ 15 := by omega
  have nb : (S.now : Int) ≤ 1050 := by omega
  have BG := Beg.of h mw mk mi mt wt (by omega)
  obtain ⟨Wb, hWb⟩ : ∃ W, ((w.alloc (.cells #[.int .u8 mw, .int .u8 mk, .int .u8 mi, .int .u8 mt] 68)).setCell ⟨X, 3, none⟩ (.int .i64 ((S.now : Int) + wt))).drew = W := ⟨_, rfl⟩
  rw [hWb] at BG
  have HWb := Lib.hid hWb
  have BH := Lib.hid BG
  have lnz : (n : Int) ≤ 150 := by omega
  have hkk : (kd : Int) < 2 ∨ ((2 : Int) ≤ kd ∧ n = 0) := by omega
  obtain ⟨f1, f2⟩ := Tb.free_lt hf
  have hgm := h.ok.d.t.gm i
  have hi63 := h.ok.d.hi
  have hnew := h.ok.newly hf
  have hok := h.ok.took hf (y := S.now + wt + (1 + tk)) (by omega) (by omega) (by omega) hll (t := S.now + wt) (by omega)
  obtain ⟨g, hg⟩ : ∃ g, S.D.t.g i = g := ⟨_, rfl⟩
  obtain ⟨y, hy⟩ : ∃ y, S.now + wt + (1 + tk) = y := ⟨_, rfl⟩
  obtain ⟨E, hE⟩ : ∃ E, S.D.took i y = E := ⟨_, rfl⟩
  have HEV : Ev S.D E := hE ▸ Ev.took _ _ _
  rw [hg] at hgm hnew hok
  rw [hy, hE] at hok
  have GR : Hid (∀ W, DSt w0 W b k a S.D → Calls Try.prog 13 #[.pointer (some ⟨b, 0, none⟩), .int .i64 (1 + (tk : Int)), .int .i64 ((S.now : Int) + wt)] W fun e w' => e = .returned (.tuple #[.agg #[.int .i64 3, .int .i64 i, .int .u32 g], .int .i64 0]) ∧ Hid (DSt w0 w' b k a E) ∧ Hid (Kept (DFoot b k a) W w')) := fun W hW => by
    have hE0 := Dk.gE_ok (D := S.D) (x := 1 + (tk : Int)) (now := (S.now : Int) + wt) ⟨by omega, by omega⟩ ⟨by omega, by omega⟩ (by omega) hf
    obtain ⟨n1, n2, n3, n4⟩ := Dk.grant_zero hE0 hf
    have := grant_s _ _ 3 i g 0 hW (by rw [n2]; rfl) (by rw [n3]) (by rw [n4, hg]) hE0
    rw [n1, show ((S.now : Int) + wt + (1 + tk)).toNat = y by omega, hE] at this
    exact this
  have HLN := Lib.hid h.ln
  have HUN := Lib.hid h.un
  have HOK := Lib.hid hok
  have HNW := Lib.hid hnew
  have HLO := Lib.hid h.lo
  have HY : Hid ((S.now : Int) + wt + (1 + tk) = (y : Int) ∧ y ≤ 1000000) := ⟨by omega, by omega⟩
  have CT : Hid (∀ W, D0 w0 W X b k a pl cl pu cu n okb (j + 1) E S wt → Calls Try.prog 32 #[.slice pl n cl, .agg #[.int .i64 3, .int .i64 i, .int .u32 g]] W fun e w' => e = .returned (.bool false) ∧ Below W.heap.size W w') := fun W hW => by
    have hl := hW.hl
    have e1 : S.ls.length = n := by rw [S.ls_len]; exact HLN.out
    rw [← e1] at hl
    have hr := RdO.of_own hl
    rw [e1] at hr
    exact contains_no pl n cl S.L (i, g) W HLN.out (by have := hll; omega) hr HNW.out
  clear hk hf hnew hok hy hE hg hi63 hgm f1 f2
  clear h h1 hbox hnow hll hln hw hkd htk hWb BG _m1 _m2 _m3 _m4
  go_enter Try.func34, Try.ntmps34
  go_wp2
  go_region
  rw [HWb.out]
  clear c0 c1 c2 c3 c4 c5 f3 b0
  obtain ⟨c0, c1, c2, c3, c4, c5⟩ := BH.out.l.cells
  have b1 := BH.out.box.cell 1
  have b2 := BH.out.box.cell 2
  have b3 := BH.out.box.cell 3
  simp only [List.getElem?_toArray, List.getElem?_cons_zero, List.getElem?_cons_succ, Int.natCast_add] at b1 b2 b3 c3
  have bl := BH.out.size
  have FC : Hid (∀ W D, D0 w0 W X b k a pl cl pu cu n okb (j + 1) D S wt → W.cell? ⟨X, 0, none⟩ = some (.pointer (some ⟨b, 0, none⟩)) ∧ W.cell? ⟨X, 3, none⟩ = some (.int .i64 ((S.now : Int) + wt))) := fun W D h => h.cells
  have L0 : Hid (LW w0 Wb.drew X b k a pl cl pu cu n okb (j + 1) ⟨S.D, S.L, S.U, S.now + wt⟩) := BH.out.l.quiet (bel_drew (Below.refl _ _))
  have L1 : Hid (LW w0 ((Wb.alloc (.cells #[.int .i64 0, .int .i64 0, .int .u32 0] 33)).drew) X b k a pl cl pu cu n okb (j + 1) ⟨S.D, S.L, S.U, S.now + wt⟩) := (BH.out.l.quiet (bal _ _)).quiet (bel_drew (Below.refl _ _))
  have O1 : Hid (Bk ((Wb.alloc (.cells #[.int .i64 0, .int .i64 0, .int .u32 0] 33)).drew) Wb.heap.size 33 #[.int .i64 0, .int .i64 0, .int .u32 0]) := (Bk.new Wb _ _).below (bel_drew (Below.refl _ _))
  have K1 : Hid (Kept (LFt X b k a pl pu) Wb ((Wb.alloc (.cells #[.int .i64 0, .int .i64 0, .int .u32 0] 33)).drew)) := ((Kept.refl _ Wb).alloc _).drew
  have hz0 := FC.out _ _ (D0.of BH.out.l)
  have hz2 := FC.out _ _ (D0.of L1.out)
  have PA : Hid (w0.heap.size ≤ Wb.heap.size ∧ ∀ g, LFt X b k a pl pu g → g ≠ Wb.heap.size) := ⟨BH.out.l.bel.size, fun g hg e => absurd (BH.out.l.foot hg) (by omega)⟩
  rcases hkk with hkk | ⟨hkk, rfl⟩
  · go_wp2
    go_region_held3 (fun W => W.cell? ⟨X, 0, none⟩ = some (.pointer (some ⟨b, 0, none⟩)) ∧ W.cell? ⟨X, 3, none⟩ = some (.int .i64 ((S.now : Int) + wt))) (first | (with_reducible exact hz5) | (with_reducible exact hz4) | (with_reducible exact hz3 _) | (with_reducible exact hz1) | (with_reducible exact hz2) | (exact hz0)) (first
      | (go_at_call 13; (with_reducible refine (GR.out _ L0.out.ds).mono ?_); rintro e w5 ⟨rfl, S5, K5⟩; have L5 := Lib.hid (D0.call L0.out K5.out S5.out); have hz1 := FC.out w5 _ L5.out; have hz3 := fun x => FC.out (w5.alloc x) _ (L5.out.quiet (bal _ _)); have OW := Lib.hid (And.intro (L5.out.quiet (bal w5 (.cells #[(.int .i64 3), (.int .i64 i), (.int .u32 g)] 33))) (And.intro (Bk.new w5 33 #[(.int .i64 3), (.int .i64 i), (.int .u32 g)]) (((Kept.refl _ Wb).drew.trans (kept_desk (X := X) (pl := pl) (pu := pu) K5.out)).alloc (.cells #[(.int .i64 3), (.int .i64 i), (.int .u32 g)] 33)))); clear S5)
      | (go_at_call 13; (with_reducible refine (GR.out _ L1.out.ds).mono ?_); rintro e w6 ⟨rfl, S6, K6⟩; have L6 := Lib.hid (D0.call L1.out K6.out S6.out); have hz4 := FC.out w6 _ L6.out; have O6 := Lib.hid (L1.out.ds.box O1.out K6.out); obtain ⟨d0, d1, d2, e0, e1, e2⟩ := laid3 O6.out; have hl6 := O6.out.lt; have T6 := three_put O6.out (.int .i64 3) (.int .i64 i) (.int .u32 g); have L7 := L6.out.past ((((Kept.refl (· = Wb.heap.size) w6).put1 0 (.int .i64 3)).put1 1 (.int .i64 i)).put1 2 (.int .u32 g)) PA.out.2 PA.out.1; have hz5 := FC.out _ _ L7; have OW := Lib.hid (And.intro L7 (And.intro T6 (StP.self (K1.out.trans (kept_desk (X := X) (pl := pl) (pu := pu) K6.out)) ((((Kept.refl (· = Wb.heap.size) w6).put1 0 (.int .i64 3)).put1 1 (.int .i64 i)).put1 2 (.int .u32 g))))); clear S6 T6 L7))
    all_goals
      clear hz0 hz2 c0 c1 c2 c3 c4 c5 b1 b2 b3
      first | generalize w5.heap.size = A at * | generalize Wb.heap.size = A at *
      obtain ⟨ow1, ow2, ow3⟩ := OW.out
      have FC2 := fun (W' : World) hW => And.intro (D0.c1 (D0.quiet (w' := W') ow1 hW)) (cells3 (Bk.below (b := W') ow2 hW))
      have H0 := bel_drew (D0.belr ow1)
      have g0 := FC2 _ (D0.belr ow1)
      have CT2 := CT.out _ (ow1.quiet H0)
      have HH := Lib.hid (And.intro (fun (W' : World) hW => And.intro (D0.quiet (w' := W') ow1 hW) (And.intro (Bk.below (b := W') ow2 hW) (ow3.trans (Kept.of_below (b := W') hW)))) (And.intro FC2 (And.intro H0 CT2)))
      obtain ⟨⟨u4, u5⟩, u0, u1, u2⟩ := id g0
      have u3 := ow2.lt
      clear ow1 ow2 ow3 FC2 H0 CT2
      go_wp2
      go_region_held3 (fun W => (W.cell? ⟨X, 1, none⟩ = some (.slice pl n cl) ∧ X < W.heap.size) ∧ W.cell? ⟨A, 0, none⟩ = some (.int .i64 3) ∧ W.cell? ⟨A, 1, none⟩ = some (.int .i64 i) ∧ W.cell? ⟨A, 2, none⟩ = some (.int .u32 g)) (first | (with_reducible exact g1) | (exact g0)) (first
        | (go_at_call 32; (with_reducible refine HH.out.2.2.2.mono ?_); rintro e v1 ⟨rfl, hb⟩; have BB := bel2 HH.out.2.2.1 hb; have g1 := HH.out.2.1 v1 BB; have QQ := Lib.hid (HH.out.1 v1 BB); clear hb BB))
      all_goals
        clear g0 g1 u0 u1 u2 u3 u4 u5 HH CT GR FC L0 L1 O1 K1 PA
        go_wp2
        refine app_region (w0 := w0) (X := X) (b := b) (k := k) (a := a) (A := A) (pl := pl) (cl := cl) (pu := pu) (cu := cu) (n := _) (D := E) (L := S.ls) (U := S.U) (r := lro (i, g)) (y := y) (Z := (S.now : Int) + wt) (Tk := 1 + (tk : Int)) (okb := okb) (by exact (by decide : (96 : Nat) < 188)) rfl rfl rfl HY.out.1 HY.out.2 (by omega) (by rw [S.ls_len]; exact HLN.out) HUN.out HLO.out QQ.out.1.ds QQ.out.2.1 QQ.out.1.hx QQ.out.1.hl QQ.out.1.hu ?_
        intro tm W5 p5 c5 p6 c6 hsz hold hk5 hds hbx hl5 hu5
        have HF : Hid (StP w0 w X b k a pl pu okb (j + 1) S W5) := BH.out.fin (S' := ⟨E, S.L ++ [(i, g)], S.U ++ [y], S.now + wt⟩) ⟨HOK.out, by simp [HLN.out], hds, by rw [← Int.natCast_add] at hbx; exact hbx, by
          have e1 : Lw.ls ⟨E, S.L ++ [(i, g)], S.U ++ [y], S.now + wt⟩ = S.ls ++ [lro (i, g)] := by simp [Lw.ls]
          rw [e1]; exact hl5, hu5, HLO.out⟩ (.inr (.inl ⟨y, rfl⟩)) (QQ.out.2.2.trans hk5)
        clear hk5 hds hbx hl5 hu5 hold QQ
        have hsz2 : tm.size = 188 := hsz
        go_wp2
        refine bodyPost_ret (v := .bool true) ?_ rfl ⟨rfl, HF⟩
        simp [results, Try.results34, go_sem, hsz2]
  · go_wp2
    go_region_held3 (fun W => W.cell? ⟨X, 0, none⟩ = some (.pointer (some ⟨b, 0, none⟩)) ∧ W.cell? ⟨X, 3, none⟩ = some (.int .i64 ((S.now : Int) + wt))) (first | (with_reducible exact hz5) | (with_reducible exact hz4) | (with_reducible exact hz3 _) | (with_reducible exact hz1) | (with_reducible exact hz2) | (exact hz0)) (first
      | (go_at_call 13; (with_reducible refine (GR.out _ L0.out.ds).mono ?_); rintro e w5 ⟨rfl, S5, K5⟩; have L5 := Lib.hid (D0.call L0.out K5.out S5.out); have hz1 := FC.out w5 _ L5.out; have hz3 := fun x => FC.out (w5.alloc x) _ (L5.out.quiet (bal _ _)); have OW := Lib.hid (And.intro (L5.out.quiet (bal w5 (.cells #[(.int .i64 3), (.int .i64 i), (.int .u32 g)] 33))) (And.intro (Bk.new w5 33 #[(.int .i64 3), (.int .i64 i), (.int .u32 g)]) (((Kept.refl _ Wb).drew.trans (kept_desk (X := X) (pl := pl) (pu := pu) K5.out)).alloc (.cells #[(.int .i64 3), (.int .i64 i), (.int .u32 g)] 33)))); clear S5)
      | (go_at_call 13; (with_reducible refine (GR.out _ L1.out.ds).mono ?_); rintro e w6 ⟨rfl, S6, K6⟩; have L6 := Lib.hid (D0.call L1.out K6.out S6.out); have hz4 := FC.out w6 _ L6.out; have O6 := Lib.hid (L1.out.ds.box O1.out K6.out); obtain ⟨d0, d1, d2, e0, e1, e2⟩ := laid3 O6.out; have hl6 := O6.out.lt; have T6 := three_put O6.out (.int .i64 3) (.int .i64 i) (.int .u32 g); have L7 := L6.out.past ((((Kept.refl (· = Wb.heap.size) w6).put1 0 (.int .i64 3)).put1 1 (.int .i64 i)).put1 2 (.int .u32 g)) PA.out.2 PA.out.1; have hz5 := FC.out _ _ L7; have OW := Lib.hid (And.intro L7 (And.intro T6 (StP.self (K1.out.trans (kept_desk (X := X) (pl := pl) (pu := pu) K6.out)) ((((Kept.refl (· = Wb.heap.size) w6).put1 0 (.int .i64 3)).put1 1 (.int .i64 i)).put1 2 (.int .u32 g))))); clear S6 T6 L7))
    all_goals
      clear hz0 hz2 c0 c1 c2 c3 c4 c5 b1 b2 b3
      first | generalize w5.heap.size = A at * | generalize Wb.heap.size = A at *
      obtain ⟨ow1, ow2, ow3⟩ := OW.out
      have FC2 := fun (W' : World) hW => And.intro (D0.c1 (D0.quiet (w' := W') ow1 hW)) (cells3 (Bk.below (b := W') ow2 hW))
      have H0 := bel_drew (D0.belr ow1)
      have g0 := FC2 _ (D0.belr ow1)
      have CT2 := CT.out _ (ow1.quiet H0)
      have HH := Lib.hid (And.intro (fun (W' : World) hW => And.intro (D0.quiet (w' := W') ow1 hW) (And.intro (Bk.below (b := W') ow2 hW) (ow3.trans (Kept.of_below (b := W') hW)))) (And.intro FC2 (And.intro H0 CT2)))
      obtain ⟨⟨u4, u5⟩, u0, u1, u2⟩ := id g0
      have u3 := ow2.lt
      clear ow1 ow2 ow3 FC2 H0 CT2
      go_wp2
      go_region_held3 (fun W => (W.cell? ⟨X, 1, none⟩ = some (.slice pl 0 cl) ∧ X < W.heap.size) ∧ W.cell? ⟨A, 0, none⟩ = some (.int .i64 3) ∧ W.cell? ⟨A, 1, none⟩ = some (.int .i64 i) ∧ W.cell? ⟨A, 2, none⟩ = some (.int .u32 g)) (first | (with_reducible exact g1) | (exact g0)) (first
        | (go_at_call 32; (with_reducible refine HH.out.2.2.2.mono ?_); rintro e v1 ⟨rfl, hb⟩; have BB := bel2 HH.out.2.2.1 hb; have g1 := HH.out.2.1 v1 BB; have QQ := Lib.hid (HH.out.1 v1 BB); clear hb BB))
      all_goals
        clear g0 g1 u0 u1 u2 u3 u4 u5 HH CT GR FC L0 L1 O1 K1 PA
        go_wp2
        refine app_region (w0 := w0) (X := X) (b := b) (k := k) (a := a) (A := A) (pl := pl) (cl := cl) (pu := pu) (cu := cu) (n := _) (D := E) (L := S.ls) (U := S.U) (r := lro (i, g)) (y := y) (Z := (S.now : Int) + wt) (Tk := 1 + (tk : Int)) (okb := okb) (by exact (by decide : (96 : Nat) < 188)) rfl rfl rfl HY.out.1 HY.out.2 (by omega) (by rw [S.ls_len]; exact HLN.out) HUN.out HLO.out QQ.out.1.ds QQ.out.2.1 QQ.out.1.hx QQ.out.1.hl QQ.out.1.hu ?_
        intro tm W5 p5 c5 p6 c6 hsz hold hk5 hds hbx hl5 hu5
        have HF : Hid (StP w0 w X b k a pl pu okb (j + 1) S W5) := BH.out.fin (S' := ⟨E, S.L ++ [(i, g)], S.U ++ [y], S.now + wt⟩) ⟨HOK.out, by simp [HLN.out], hds, by rw [← Int.natCast_add] at hbx; exact hbx, by
          have e1 : Lw.ls ⟨E, S.L ++ [(i, g)], S.U ++ [y], S.now + wt⟩ = S.ls ++ [lro (i, g)] := by simp [Lw.ls]
          rw [e1]; exact hl5, hu5, HLO.out⟩ (.inr (.inl ⟨y, rfl⟩)) (QQ.out.2.2.trans hk5)
        clear hk5 hds hbx hl5 hu5 hold QQ
        have hsz2 : tm.size = 188 := hsz
        go_wp2
        refine bodyPost_ret (v := .bool true) ?_ rfl ⟨rfl, HF⟩
        simp [results, Try.results34, go_sem, hsz2]
end Go.Proofs.Ytfemfgpciogbeaa
