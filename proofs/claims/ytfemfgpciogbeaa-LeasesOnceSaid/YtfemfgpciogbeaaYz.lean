/- A move of the statements' desk: the ways where a lease is renewed. -/
import Derived.Test.YtfemfgpciogbeaaYs
namespace Go.Proofs.Ytfemfgpciogbeaa
open Go.RowKit

set_option maxRecDepth 1000000 in
set_option maxHeartbeats 4000000 in
theorem step_ren0 {w0 w : World} {X b k a cl cu n j : Nat} {pl pu : Option Addr} {okb : Bool} {S : Lw} (h : LW w0 w X b k a pl cl pu cu n okb j S) (hj : j ≤ 150) (mw mk mi mt : Nat) (_m1 : mw ≤ 255) (_m2 : mk ≤ 255) (_m3 : mi ≤ 255) (_m4 : mt ≤ 255) (hk : mk % 4 = 3) (K u : Nat) (r : Nat × Nat) (hK : mi % n = K) (hn0 : 0 < n) (hr : S.L[K]? = some r) (hu : S.U[K]? = some u) (hu0 : u = 0) :
    Calls Try.prog 34 #[.pointer (some ⟨X, 0, none⟩), .agg #[.int .u8 mw, .int .u8 mk, .int .u8 mi, .int .u8 mt]] w fun e w' => e = .returned (.bool true) ∧ Hid (StP w0 w X b k a pl pu okb (j + 1) S w') := by
  have h1 := h.quiet (bal w (.cells #[.int .u8 mw, .int .u8 mk, .int .u8 mi, .int .u8 mt] 68))
  obtain ⟨c0, c1, c2, c3, c4, c5⟩ := h1.cells
  have f3 := h1.fz 3
  have hbox := Bk.new w 68 #[.int .u8 mw, .int .u8 mk, .int .u8 mi, .int .u8 mt]
  have b0 := hbox.cell 0
  simp only [List.getElem?_toArray, List.getElem?_cons_zero] at b0
  have hnow := h.ok.now
  have hll := h.ok.ll
  have hln := h.ln
  obtain ⟨wt, hw⟩ : ∃ x, mw % 8 = x := ⟨_, rfl⟩
  obtain ⟨kd, hkd⟩ : ∃ x, mk % 4 = x := ⟨_, rfl⟩
  obtain ⟨tk, htk⟩ : ∃ x, mt % 16 = x := ⟨_, rfl⟩
  have w1 : (mw : Int).tmod 8 = (wt : Int) := by rw [← hw]; exact tmod_nat _ 8
  have w2 : (mw : Int) % 8 = (wt : Int) := by rw [← hw]; exact emod_nat _ 8
  have k1 : (mk : Int).tmod 4 = (kd : Int) := by rw [← hkd]; exact tmod_nat _ 4
  have k2 : (mk : Int) % 4 = (kd : Int) := by rw [← hkd]; exact emod_nat _ 4
  have t1 : (mt : Int).tmod 16 = (tk : Int) := by rw [← htk]; exact tmod_nat _ 16
  have t2 : (mt : Int) % 16 = (tk : Int) := by rw [← htk]; exact emod_nat _ 16
  have wb : (wt : Int) ≤ 7 := by omega
  have kb : (kd : Int) ≤ 3 := by omega
  have tb : (tk : Int) ≤ 15 := by omega
  have nb : (S.now : Int) ≤ 1050 := by omega
  have BG := Beg.of h mw mk mi mt wt (by omega)
  obtain ⟨Wb, hWb⟩ : ∃ W, ((w.alloc (.cells #[.int .u8 mw, .int .u8 mk, .int .u8 mi, .int .u8 mt] 68)).setCell ⟨X, 3, none⟩ (.int .i64 ((S.now : Int) + wt))).drew = W := ⟨_, rfl⟩
  rw [hWb] at BG
  have HWb := Lib.hid hWb
  have BH := Lib.hid BG
  have lnz : (n : Int) ≤ 150 := by omega
  have hmod : (mi : Int).tmod (n : Int) = (K : Int) := by rw [← hK]; exact tmod_nat _ _
  have hmod2 : (mi : Int) % (n : Int) = (K : Int) := by rw [← hK]; exact emod_nat _ _
  have hKn : (K : Int) < n := by have : mi % n < n := Nat.mod_lt _ hn0; omega
  have hn1 : (0 : Int) < n := by omega
  have mb : (mi : Int) ≤ 255 := by omega
  obtain rfl : kd = 3 := by omega
  obtain ⟨rb1, rb2⟩ := h.ok.rg hr
  have RG : Hid (RgO 3 r.1 r.2) := ⟨by omega, by omega, by omega, by omega, by omega, by omega⟩
  have HLN := Lib.hid h.ln
  have HUN := Lib.hid h.un
  have HKU : Hid (K < S.U.length) := (List.getElem?_eq_some_iff.1 hu).1
  have R0 := Lib.hid (And.intro hr hu)
  have hok := BG.l.ok
  have uu := h.ok.uu K u hu
  subst hu0
  have HC : Hid (S.D.chk 3 r.1 r.2 = 7) := BG.l.ok.chk_zero hr hu
  have hE : S.D.rE 3 r.1 r.2 (1 + (tk : Int)) ((S.now : Int) + wt) = 7 := by rw [Dk.rE_chk ⟨by omega, by omega⟩ ⟨by omega, by omega⟩ (by rw [HC.out]; decide), HC.out]
  have HON : Hid (OneU S.U S.U) := .inl rfl
  have HOK : Hid (Lw.Ok ⟨S.D, S.L, S.U, S.now + wt⟩ (j + 1)) := BG.l.ok
  have RE : Hid (∀ W, D0 w0 W X b k a pl cl pu cu n okb (j + 1) S.D ⟨S.D, S.L, S.U, S.now⟩ wt → Calls Try.prog 15 #[.pointer (some ⟨b, 0, none⟩), .agg #[.int .i64 3, .int .i64 r.1, .int .u32 r.2], .int .i64 (1 + (tk : Int)), .int .i64 ((S.now : Int) + wt)] W fun e w' => e = .returned (.int .i64 7) ∧ Hid (D0 w0 w' X b k a pl cl pu cu n okb (j + 1) S.D ⟨S.D, S.L, S.U, S.now⟩ wt) ∧ Hid (Kept (LFt X b k a pl pu) W w')) := fun W hW => by
    have := renew_s 3 r.1 r.2 (1 + (tk : Int)) ((S.now : Int) + wt) 7 hW.ds RG.out hE
    rw [Dk.renew_ne (by rw [hE]; decide)] at this
    exact this.mono fun _ _ ⟨h1, h2, h3⟩ => ⟨h1, hW.step h3.out h2.out, kept_desk h3.out⟩
  clear hE
  clear hk hK hn0 hr hu hok uu rb1 rb2
  clear h h1 hbox hnow hll hln hw hkd htk hWb BG _m1 _m2 _m3 _m4
  go_enter Try.func34, Try.ntmps34
  go_wp2
  go_region
  rw [HWb.out]
  clear c0 c1 c2 c3 c4 c5 f3 b0
  obtain ⟨c0, c1, c2, c3, c4, c5⟩ := BH.out.l.cells
  have b1 := BH.out.box.cell 1
  have b2 := BH.out.box.cell 2
  have b3 := BH.out.box.cell 3
  simp only [List.getElem?_toArray, List.getElem?_cons_zero, List.getElem?_cons_succ, Int.natCast_add] at b1 b2 b3 c3
  have bl := BH.out.size
  have z0 := D0.of BH.out.l
  obtain ⟨gl, gu, rfl, rfl, l1, l2, q0, q1, q2, q3, q4⟩ := z0.reads HLN.out HUN.out R0.out.1 R0.out.2
  have FC : Hid (∀ W D U', D0 w0 W X b k a (some ⟨gl, 0, none⟩) cl (some ⟨gu, 0, none⟩) cu n okb (j + 1) D ⟨S.D, S.L, U', S.now⟩ wt → (W.cell? ⟨X, 0, none⟩ = some (.pointer (some ⟨b, 0, none⟩)) ∧ W.cell? ⟨X, 1, none⟩ = some (.slice (some ⟨gl, 0, none⟩) n cl) ∧ W.cell? ⟨X, 2, none⟩ = some (.slice (some ⟨gu, 0, none⟩) n cu) ∧ W.cell? ⟨X, 3, none⟩ = some (.int .i64 ((S.now : Int) + wt)) ∧ X < W.heap.size) ∧ gl < W.heap.size ∧ W.cell? ⟨gl, K * 3, none⟩ = some (.int .i64 3) ∧ W.cell? ⟨gl, K * 3 + 1, none⟩ = some (.int .i64 r.1) ∧ W.cell? ⟨gl, K * 3 + 2, none⟩ = some (.int .u32 r.2)) := fun W D U' h => by
    obtain ⟨gl', e1, a1, a3, a4, a5⟩ := row_atl h.hl HLN.out R0.out.1
    injection e1 with e1
    injection e1 with e1
    subst e1
    exact ⟨h.five, a1, a3, a4, a5⟩
  obtain ⟨i, g⟩ := r
  simp only at q1 q2 FC RG
  have Z0 := Lib.hid z0
  have K0 : Hid (Kept (LFt X b k a (some ⟨gl, 0, none⟩) (some ⟨gu, 0, none⟩)) Wb Wb) := Kept.refl _ _
  clear z0
  have Z1 : Hid (D0 w0 Wb X b k a (some ⟨gl, 0, none⟩) cl (some ⟨gu, 0, none⟩) cu n okb (j + 1) S.D ⟨S.D, S.L, S.U, S.now⟩ wt ∧ Kept (LFt X b k a (some ⟨gl, 0, none⟩) (some ⟨gu, 0, none⟩)) Wb Wb) := ⟨Z0.out, K0.out⟩
  have RE2 : Hid (∀ W, Below Wb.heap.size Wb W → Calls Try.prog 15 #[.pointer (some ⟨b, 0, none⟩), .agg #[.int .i64 3, .int .i64 i, .int .u32 g], .int .i64 (1 + (tk : Int)), .int .i64 ((S.now : Int) + wt)] W fun e w' => e = .returned (.int .i64 7) ∧ Hid (D0 w0 w' X b k a (some ⟨gl, 0, none⟩) cl (some ⟨gu, 0, none⟩) cu n okb (j + 1) S.D ⟨S.D, S.L, S.U, S.now⟩ wt) ∧ Hid (Kept (LFt X b k a (some ⟨gl, 0, none⟩) (some ⟨gu, 0, none⟩)) Wb w')) := fun W hW =>
    (RE.out W (Z1.out.1.quiet hW)).mono fun _ _ ⟨h1, h2, h3⟩ => ⟨h1, h2, (Z1.out.2.trans (Kept.of_below hW)).trans h3.out⟩
  clear RE
  have hz0 := FC.out _ _ _ Z1.out.1
  go_wp2
  go_quiet (fail)
  go_wp2
  go_quiet (fail)
  go_wp2
  go_region_held3 (fun W => (W.cell? ⟨X, 0, none⟩ = some (.pointer (some ⟨b, 0, none⟩)) ∧ W.cell? ⟨X, 1, none⟩ = some (.slice (some ⟨gl, 0, none⟩) n cl) ∧ W.cell? ⟨X, 2, none⟩ = some (.slice (some ⟨gu, 0, none⟩) n cu) ∧ W.cell? ⟨X, 3, none⟩ = some (.int .i64 ((S.now : Int) + wt)) ∧ X < W.heap.size) ∧ gl < W.heap.size ∧ W.cell? ⟨gl, K * 3, none⟩ = some (.int .i64 3) ∧ W.cell? ⟨gl, K * 3 + 1, none⟩ = some (.int .i64 i) ∧ W.cell? ⟨gl, K * 3 + 2, none⟩ = some (.int .u32 g)) (first | (with_reducible exact hz1) | (exact hz0)) (first
    | (go_at_call 15; (with_reducible refine (RE2.out _ (by exact ⟨rfl, rfl, rfl, Nat.le_refl _, fun _ _ => rfl⟩)).mono ?_); rintro e w5 ⟨rfl, HD, HK⟩; have hz1 := FC.out w5 _ _ HD.out))
  all_goals
    have HF : Hid (StP w0 w X b k a (some ⟨gl, 0, none⟩) (some ⟨gu, 0, none⟩) okb (j + 1) S w5) := BH.out.fin (HD.out.to HOK.out HLN.out) HON.out HK.out
    clear hz0 hz1 c0 c1 c2 c3 c4 c5 b1 b2 b3 q0 q1 q2 q3 q4 RE2
    go_wp2
    go_ret
    exact ⟨rfl, HF⟩
set_option maxRecDepth 1000000 in
set_option maxHeartbeats 4000000 in
theorem step_ren8 {w0 w : World} {X b k a cl cu n j : Nat} {pl pu : Option Addr} {okb : Bool} {S : Lw} (h : LW w0 w X b k a pl cl pu cu n okb j S) (hj : j ≤ 150) (mw mk mi mt : Nat) (_m1 : mw ≤ 255) (_m2 : mk ≤ 255) (_m3 : mi ≤ 255) (_m4 : mt ≤ 255) (hk : mk % 4 = 3) (K u : Nat) (r : Nat × Nat) (hK : mi % n = K) (hn0 : 0 < n) (hr : S.L[K]? = some r) (hu : S.U[K]? = some u) (hu0 : 0 < u) (hov : u ≤ S.now + mw % 8) :
    Calls Try.prog 34 #[.pointer (some ⟨X, 0, none⟩), .agg #[.int .u8 mw, .int .u8 mk, .int .u8 mi, .int .u8 mt]] w fun e w' => e = .returned (.bool true) ∧ Hid (StP w0 w X b k a pl pu okb (j + 1) S w') := by
  have h1 := h.quiet (bal w (.cells #[.int .u8 mw, .int .u8 mk, .int .u8 mi, .int .u8 mt] 68))
  obtain ⟨c0, c1, c2, c3, c4, c5⟩ := h1.cells
  have f3 := h1.fz 3
  have hbox := Bk.new w 68 #[.int .u8 mw, .int .u8 mk, .int .u8 mi, .int .u8 mt]
  have b0 := hbox.cell 0
  simp only [List.getElem?_toArray, List.getElem?_cons_zero] at b0
  have hnow := h.ok.now
  have hll := h.ok.ll
  have hln := h.ln
  obtain ⟨wt, hw⟩ : ∃ x, mw % 8 = x := ⟨_, rfl⟩
  obtain ⟨kd, hkd⟩ : ∃ x, mk % 4 = x := ⟨_, rfl⟩
  obtain ⟨tk, htk⟩ : ∃ x, mt % 16 = x := ⟨_, rfl⟩
  have w1 : (mw : Int).tmod 8 = (wt : Int) := by rw [← hw]; exact tmod_nat _ 8
  have w2 : (mw : Int) % 8 = (wt : Int) := by rw [← hw]; exact emod_nat _ 8
  have k1 : (mk : Int).tmod 4 = (kd : Int) := by rw [← hkd]; exact tmod_nat _ 4
  have k2 : (mk : Int) % 4 = (kd : Int) := by rw [← hkd]; exact emod_nat _ 4
  have t1 : (mt : Int).tmod 16 = (tk : Int) := by rw [← htk]; exact tmod_nat _ 16
  have t2 : (mt : Int) % 16 = (tk : Int) := by rw [← htk]; exact emod_nat _ 16
  have wb : (wt : Int) ≤ 7 := by omega
  have kb : (kd : Int) ≤ 3 := by omega
  have tb : (tk : Int) ≤ 15 := by omega
  have nb : (S.now : Int) ≤ 1050 := by omega
  have BG := Beg.of h mw mk mi mt wt (by omega)
  obtain ⟨Wb, hWb⟩ : ∃ W, ((w.alloc (.cells #[.int .u8 mw, .int .u8 mk, .int .u8 mi, .int .u8 mt] 68)).setCell ⟨X, 3, none⟩ (.int .i64 ((S.now : Int) + wt))).drew = W := ⟨_, rfl⟩
  rw [hWb] at BG
  have HWb := Lib.hid hWb
  have BH := Lib.hid BG
  have lnz : (n : Int) ≤ 150 := by omega
  have hmod : (mi : Int).tmod (n : Int) = (K : Int) := by rw [← hK]; exact tmod_nat _ _
  have hmod2 : (mi : Int) % (n : Int) = (K : Int) := by rw [← hK]; exact emod_nat _ _
  have hKn : (K : Int) < n := by have : mi % n < n := Nat.mod_lt _ hn0; omega
  have hn1 : (0 : Int) < n := by omega
  have mb : (mi : Int) ≤ 255 := by omega
  obtain rfl : kd = 3 := by omega
  obtain ⟨rb1, rb2⟩ := h.ok.rg hr
  have RG : Hid (RgO 3 r.1 r.2) := ⟨by omega, by omega, by omega, by omega, by omega, by omega⟩
  have HLN := Lib.hid h.ln
  have HUN := Lib.hid h.un
  have HKU : Hid (K < S.U.length) := (List.getElem?_eq_some_iff.1 hu).1
  have R0 := Lib.hid (And.intro hr hu)
  have hok := BG.l.ok
  have uu := h.ok.uu K u hu
  have huz : (0 : Int) < u := by omega
  have hoz : (u : Int) ≤ (S.now : Int) + wt := by omega
  have HC : Hid (S.D.chk 3 r.1 r.2 = 0) := (BG.l.ok.chk_pos hr hu hu0).1
  have hDu : S.D.u r.1 = u := (BG.l.ok.chk_pos hr hu hu0).2
  have hE : S.D.rE 3 r.1 r.2 (1 + (tk : Int)) ((S.now : Int) + wt) = 8 := by rw [Dk.rE_held ⟨by omega, by omega⟩ ⟨by omega, by omega⟩ HC.out, Int.toNat_natCast, hDu, if_pos hoz]
  have HON : Hid (OneU S.U S.U) := .inl rfl
  have HOK : Hid (Lw.Ok ⟨S.D, S.L, S.U, S.now + wt⟩ (j + 1)) := BG.l.ok
  have RE : Hid (∀ W, D0 w0 W X b k a pl cl pu cu n okb (j + 1) S.D ⟨S.D, S.L, S.U, S.now⟩ wt → Calls Try.prog 15 #[.pointer (some ⟨b, 0, none⟩), .agg #[.int .i64 3, .int .i64 r.1, .int .u32 r.2], .int .i64 (1 + (tk : Int)), .int .i64 ((S.now : Int) + wt)] W fun e w' => e = .returned (.int .i64 8) ∧ Hid (D0 w0 w' X b k a pl cl pu cu n okb (j + 1) S.D ⟨S.D, S.L, S.U, S.now⟩ wt) ∧ Hid (Kept (LFt X b k a pl pu) W w')) := fun W hW => by
    have := renew_s 3 r.1 r.2 (1 + (tk : Int)) ((S.now : Int) + wt) 8 hW.ds RG.out hE
    rw [Dk.renew_ne (by rw [hE]; decide)] at this
    exact this.mono fun _ _ ⟨h1, h2, h3⟩ => ⟨h1, hW.step h3.out h2.out, kept_desk h3.out⟩
  clear hE hDu hu0 hov
  clear hk hK hn0 hr hu hok uu rb1 rb2
  clear h h1 hbox hnow hll hln hw hkd htk hWb BG _m1 _m2 _m3 _m4
  go_enter Try.func34, Try.ntmps34
  go_wp2
  go_region
  rw [HWb.out]
  clear c0 c1 c2 c3 c4 c5 f3 b0
  obtain ⟨c0, c1, c2, c3, c4, c5⟩ := BH.out.l.cells
  have b1 := BH.out.box.cell 1
  have b2 := BH.out.box.cell 2
  have b3 := BH.out.box.cell 3
  simp only [List.getElem?_toArray, List.getElem?_cons_zero, List.getElem?_cons_succ, Int.natCast_add] at b1 b2 b3 c3
  have bl := BH.out.size
  have z0 := D0.of BH.out.l
  obtain ⟨gl, gu, rfl, rfl, l1, l2, q0, q1, q2, q3, q4⟩ := z0.reads HLN.out HUN.out R0.out.1 R0.out.2
  have FC : Hid (∀ W D U', D0 w0 W X b k a (some ⟨gl, 0, none⟩) cl (some ⟨gu, 0, none⟩) cu n okb (j + 1) D ⟨S.D, S.L, U', S.now⟩ wt → (W.cell? ⟨X, 0, none⟩ = some (.pointer (some ⟨b, 0, none⟩)) ∧ W.cell? ⟨X, 1, none⟩ = some (.slice (some ⟨gl, 0, none⟩) n cl) ∧ W.cell? ⟨X, 2, none⟩ = some (.slice (some ⟨gu, 0, none⟩) n cu) ∧ W.cell? ⟨X, 3, none⟩ = some (.int .i64 ((S.now : Int) + wt)) ∧ X < W.heap.size) ∧ gl < W.heap.size ∧ W.cell? ⟨gl, K * 3, none⟩ = some (.int .i64 3) ∧ W.cell? ⟨gl, K * 3 + 1, none⟩ = some (.int .i64 r.1) ∧ W.cell? ⟨gl, K * 3 + 2, none⟩ = some (.int .u32 r.2)) := fun W D U' h => by
    obtain ⟨gl', e1, a1, a3, a4, a5⟩ := row_atl h.hl HLN.out R0.out.1
    injection e1 with e1
    injection e1 with e1
    subst e1
    exact ⟨h.five, a1, a3, a4, a5⟩
  obtain ⟨i, g⟩ := r
  simp only at q1 q2 FC RG
  have Z0 := Lib.hid z0
  have K0 : Hid (Kept (LFt X b k a (some ⟨gl, 0, none⟩) (some ⟨gu, 0, none⟩)) Wb Wb) := Kept.refl _ _
  clear z0
  have Z1 : Hid (D0 w0 Wb X b k a (some ⟨gl, 0, none⟩) cl (some ⟨gu, 0, none⟩) cu n okb (j + 1) S.D ⟨S.D, S.L, S.U, S.now⟩ wt ∧ Kept (LFt X b k a (some ⟨gl, 0, none⟩) (some ⟨gu, 0, none⟩)) Wb Wb) := ⟨Z0.out, K0.out⟩
  have RE2 : Hid (∀ W, Below Wb.heap.size Wb W → Calls Try.prog 15 #[.pointer (some ⟨b, 0, none⟩), .agg #[.int .i64 3, .int .i64 i, .int .u32 g], .int .i64 (1 + (tk : Int)), .int .i64 ((S.now : Int) + wt)] W fun e w' => e = .returned (.int .i64 8) ∧ Hid (D0 w0 w' X b k a (some ⟨gl, 0, none⟩) cl (some ⟨gu, 0, none⟩) cu n okb (j + 1) S.D ⟨S.D, S.L, S.U, S.now⟩ wt) ∧ Hid (Kept (LFt X b k a (some ⟨gl, 0, none⟩) (some ⟨gu, 0, none⟩)) Wb w')) := fun W hW =>
    (RE.out W (Z1.out.1.quiet hW)).mono fun _ _ ⟨h1, h2, h3⟩ => ⟨h1, h2, (Z1.out.2.trans (Kept.of_below hW)).trans h3.out⟩
  clear RE
  have hz0 := FC.out _ _ _ Z1.out.1
  go_wp2
  go_quiet (fail)
  go_wp2
  go_quiet (fail)
  go_wp2
  go_region_held3 (fun W => (W.cell? ⟨X, 0, none⟩ = some (.pointer (some ⟨b, 0, none⟩)) ∧ W.cell? ⟨X, 1, none⟩ = some (.slice (some ⟨gl, 0, none⟩) n cl) ∧ W.cell? ⟨X, 2, none⟩ = some (.slice (some ⟨gu, 0, none⟩) n cu) ∧ W.cell? ⟨X, 3, none⟩ = some (.int .i64 ((S.now : Int) + wt)) ∧ X < W.heap.size) ∧ gl < W.heap.size ∧ W.cell? ⟨gl, K * 3, none⟩ = some (.int .i64 3) ∧ W.cell? ⟨gl, K * 3 + 1, none⟩ = some (.int .i64 i) ∧ W.cell? ⟨gl, K * 3 + 2, none⟩ = some (.int .u32 g)) (first | (with_reducible exact hz1) | (exact hz0)) (first
    | (go_at_call 15; (with_reducible refine (RE2.out _ (by exact ⟨rfl, rfl, rfl, Nat.le_refl _, fun _ _ => rfl⟩)).mono ?_); rintro e w5 ⟨rfl, HD, HK⟩; have hz1 := FC.out w5 _ _ HD.out))
  all_goals
    have HF : Hid (StP w0 w X b k a (some ⟨gl, 0, none⟩) (some ⟨gu, 0, none⟩) okb (j + 1) S w5) := BH.out.fin (HD.out.to HOK.out HLN.out) HON.out HK.out
    clear hz0 hz1 c0 c1 c2 c3 c4 c5 b1 b2 b3 q0 q1 q2 q3 q4 RE2
    go_wp2
    go_ret
    exact ⟨rfl, HF⟩
set_option maxRecDepth 1000000 in
set_option maxHeartbeats 4000000 in
theorem step_renk {w0 w : World} {X b k a cl cu n j : Nat} {pl pu : Option Addr} {okb : Bool} {S : Lw} (h : LW w0 w X b k a pl cl pu cu n okb j S) (hj : j ≤ 150) (mw mk mi mt : Nat) (_m1 : mw ≤ 255) (_m2 : mk ≤ 255) (_m3 : mi ≤ 255) (_m4 : mt ≤ 255) (hk : mk % 4 = 3) (K u : Nat) (r : Nat × Nat) (hK : mi % n = K) (hn0 : 0 < n) (hr : S.L[K]? = some r) (hu : S.U[K]? = some u) (hu0 : 0 < u) (hov : S.now + mw % 8 < u) :
    Calls Try.prog 34 #[.pointer (some ⟨X, 0, none⟩), .agg #[.int .u8 mw, .int .u8 mk, .int .u8 mi, .int .u8 mt]] w fun e w' => e = .returned (.bool true) ∧ Hid (StP w0 w X b k a pl pu okb (j + 1) S w') := by
  have h1 := h.quiet (bal w (.cells #[.int .u8 mw, .int .u8 mk, .int .u8 mi, .int .u8 mt] 68))
  obtain ⟨c0, c1, c2, c3, c4, c5⟩ := h1.cells
  have f3 := h1.fz 3
  have hbox := Bk.new w 68 #[.int .u8 mw, .int .u8 mk, .int .u8 mi, .int .u8 mt]
  have b0 := hbox.cell 0
  simp only [List.getElem?_toArray, List.getElem?_cons_zero] at b0
  have hnow := h.ok.now
  have hll := h.ok.ll
  have hln := h.ln
  obtain ⟨wt, hw⟩ : ∃ x, mw % 8 = x := ⟨_, rfl⟩
  obtain ⟨kd, hkd⟩ : ∃ x, mk % 4 = x := ⟨_, rfl⟩
  obtain ⟨tk, htk⟩ : ∃ x, mt % 16 = x := ⟨_, rfl⟩
  have w1 : (mw : Int).tmod 8 = (wt : Int) := by rw [← hw]; exact tmod_nat _ 8
  have w2 : (mw : Int) % 8 = (wt : Int) := by rw [← hw]; exact emod_nat _ 8
  have k1 : (mk : Int).tmod 4 = (kd : Int) := by rw [← hkd]; exact tmod_nat _ 4
  have k2 : (mk : Int) % 4 = (kd : Int) := by rw [← hkd]; exact emod_nat _ 4
  have t1 : (mt : Int).tmod 16 = (tk : Int) := by rw [← htk]; exact tmod_nat _ 16
  have t2 : (mt : Int) % 16 = (tk : Int) := by rw [← htk]; exact emod_nat _ 16
  have wb : (wt : Int) ≤ 7 := by omega
  have kb : (kd : Int) ≤ 3 := by omega
  have tb : (tk : Int) ≤ 15 := by omega
  have nb : (S.now : Int) ≤ 1050 := by omega
  have BG := Beg.of h mw mk mi mt wt (by omega)
  obtain ⟨Wb, hWb⟩ : ∃ W, ((w.alloc (.cells #[.int .u8 mw, .int .u8 mk, .int .u8 mi, .int .u8 mt] 68)).setCell ⟨X, 3, none⟩ (.int .i64 ((S.now : Int) + wt))).drew = W := ⟨_, rfl⟩
  rw [hWb] at BG
  have HWb := Lib.hid hWb
  have BH := Lib.hid BG
  have lnz : (n : Int) ≤ 150 := by omega
  have hmod : (mi : Int).tmod (n : Int) = (K : Int) := by rw [← hK]; exact tmod_nat _ _
  have hmod2 : (mi : Int) % (n : Int) = (K : Int) := by rw [← hK]; exact emod_nat _ _
  have hKn : (K : Int) < n := by have : mi % n < n := Nat.mod_lt _ hn0; omega
  have hn1 : (0 : Int) < n := by omega
  have mb : (mi : Int) ≤ 255 := by omega
  obtain rfl : kd = 3 := by omega
  obtain ⟨rb1, rb2⟩ := h.ok.rg hr
  have RG : Hid (RgO 3 r.1 r.2) := ⟨by omega, by omega, by omega, by omega, by omega, by omega⟩
  have HLN := Lib.hid h.ln
  have HUN := Lib.hid h.un
  have HKU : Hid (K < S.U.length) := (List.getElem?_eq_some_iff.1 hu).1
  have R0 := Lib.hid (And.intro hr hu)
  have hok := BG.l.ok
  have uu := h.ok.uu K u hu
  have huz : (0 : Int) < u := by omega
  have hoz : (S.now : Int) + wt < (u : Int) := by omega
  have HC : Hid (S.D.chk 3 r.1 r.2 = 0) := (BG.l.ok.chk_pos hr hu hu0).1
  have hDu : S.D.u r.1 = u := (BG.l.ok.chk_pos hr hu hu0).2
  have hE : S.D.rE 3 r.1 r.2 (1 + (tk : Int)) ((S.now : Int) + wt) = 0 := by rw [Dk.rE_held ⟨by omega, by omega⟩ ⟨by omega, by omega⟩ HC.out, Int.toNat_natCast, hDu, if_neg (by omega), if_pos (by omega)]
  obtain ⟨y, hy⟩ : ∃ y, S.now + wt + (1 + tk) = y := ⟨_, rfl⟩
  have HY : Hid ((S.now : Int) + wt + (1 + tk) = (y : Int)) := by unfold Hid; omega
  have HOK : Hid (Lw.Ok ⟨S.D.until r.1 y, S.L, S.U.set K y, S.now + wt⟩ (j + 1)) := BG.l.ok.renew hr hu hu0 (by omega) (by omega) (by omega)
  have HON : Hid (OneU S.U (S.U.set K y)) := .inr (.inr ⟨K, y, HKU.out, rfl⟩)
  have RE : Hid (∀ W, D0 w0 W X b k a pl cl pu cu n okb (j + 1) S.D ⟨S.D, S.L, (S.U.set K y), S.now⟩ wt → Calls Try.prog 15 #[.pointer (some ⟨b, 0, none⟩), .agg #[.int .i64 3, .int .i64 r.1, .int .u32 r.2], .int .i64 (1 + (tk : Int)), .int .i64 ((S.now : Int) + wt)] W fun e w' => e = .returned (.int .i64 0) ∧ Hid (D0 w0 w' X b k a pl cl pu cu n okb (j + 1) (S.D.until r.1 y) ⟨S.D, S.L, (S.U.set K y), S.now⟩ wt) ∧ Hid (Kept (LFt X b k a pl pu) W w')) := fun W hW => by
    have := renew_s 3 r.1 r.2 (1 + (tk : Int)) ((S.now : Int) + wt) 0 hW.ds RG.out hE
    have e : S.D.renew 3 r.1 r.2 (1 + (tk : Int)) ((S.now : Int) + wt) = S.D.until r.1 y := by unfold Dk.renew; rw [if_pos hE, Int.toNat_natCast, HY.out, Int.toNat_natCast]
    rw [e] at this
    exact this.mono fun _ _ ⟨h1, h2, h3⟩ => ⟨h1, hW.step h3.out h2.out, kept_desk h3.out⟩
  clear hE hDu hu0 hov hy
  clear hk hK hn0 hr hu hok uu rb1 rb2
  clear h h1 hbox hnow hll hln hw hkd htk hWb BG _m1 _m2 _m3 _m4
  go_enter Try.func34, Try.ntmps34
  go_wp2
  go_region
  rw [HWb.out]
  clear c0 c1 c2 c3 c4 c5 f3 b0
  obtain ⟨c0, c1, c2, c3, c4, c5⟩ := BH.out.l.cells
  have b1 := BH.out.box.cell 1
  have b2 := BH.out.box.cell 2
  have b3 := BH.out.box.cell 3
  simp only [List.getElem?_toArray, List.getElem?_cons_zero, List.getElem?_cons_succ, Int.natCast_add] at b1 b2 b3 c3
  have bl := BH.out.size
  have z0 := D0.of BH.out.l
  obtain ⟨gl, gu, rfl, rfl, l1, l2, q0, q1, q2, q3, q4⟩ := z0.reads HLN.out HUN.out R0.out.1 R0.out.2
  have FC : Hid (∀ W D U', D0 w0 W X b k a (some ⟨gl, 0, none⟩) cl (some ⟨gu, 0, none⟩) cu n okb (j + 1) D ⟨S.D, S.L, U', S.now⟩ wt → (W.cell? ⟨X, 0, none⟩ = some (.pointer (some ⟨b, 0, none⟩)) ∧ W.cell? ⟨X, 1, none⟩ = some (.slice (some ⟨gl, 0, none⟩) n cl) ∧ W.cell? ⟨X, 2, none⟩ = some (.slice (some ⟨gu, 0, none⟩) n cu) ∧ W.cell? ⟨X, 3, none⟩ = some (.int .i64 ((S.now : Int) + wt)) ∧ X < W.heap.size) ∧ gl < W.heap.size ∧ W.cell? ⟨gl, K * 3, none⟩ = some (.int .i64 3) ∧ W.cell? ⟨gl, K * 3 + 1, none⟩ = some (.int .i64 r.1) ∧ W.cell? ⟨gl, K * 3 + 2, none⟩ = some (.int .u32 r.2)) := fun W D U' h => by
    obtain ⟨gl', e1, a1, a3, a4, a5⟩ := row_atl h.hl HLN.out R0.out.1
    injection e1 with e1
    injection e1 with e1
    subst e1
    exact ⟨h.five, a1, a3, a4, a5⟩
  obtain ⟨i, g⟩ := r
  simp only at q1 q2 FC RG
  have Z0 := Lib.hid z0
  have K0 : Hid (Kept (LFt X b k a (some ⟨gl, 0, none⟩) (some ⟨gu, 0, none⟩)) Wb Wb) := Kept.refl _ _
  clear z0
  obtain ⟨V, hV⟩ : ∃ V, Wb.setCell ⟨gu, K, none⟩ (.int .i64 ((S.now : Int) + wt + (1 + tk))) = V := ⟨_, rfl⟩
  have Z1 : Hid (D0 w0 (Wb.setCell ⟨gu, K, none⟩ (.int .i64 ((S.now : Int) + wt + (1 + tk)))) X b k a (some ⟨gl, 0, none⟩) cl (some ⟨gu, 0, none⟩) cu n okb (j + 1) S.D ⟨S.D, S.L, S.U.set K y, S.now⟩ wt ∧ Kept (LFt X b k a (some ⟨gl, 0, none⟩) (some ⟨gu, 0, none⟩)) Wb (Wb.setCell ⟨gu, K, none⟩ (.int .i64 ((S.now : Int) + wt + (1 + tk))))) := by
    have := Z0.out.storeu (q := K) (y := y)
    rw [← HY.out] at this
    exact this
  clear hV V
  have RE2 : Hid (∀ W, Below (Wb.setCell ⟨gu, K, none⟩ (.int .i64 ((S.now : Int) + wt + (1 + tk)))).heap.size (Wb.setCell ⟨gu, K, none⟩ (.int .i64 ((S.now : Int) + wt + (1 + tk)))) W → Calls Try.prog 15 #[.pointer (some ⟨b, 0, none⟩), .agg #[.int .i64 3, .int .i64 i, .int .u32 g], .int .i64 (1 + (tk : Int)), .int .i64 ((S.now : Int) + wt)] W fun e w' => e = .returned (.int .i64 0) ∧ Hid (D0 w0 w' X b k a (some ⟨gl, 0, none⟩) cl (some ⟨gu, 0, none⟩) cu n okb (j + 1) (S.D.until i y) ⟨S.D, S.L, (S.U.set K y), S.now⟩ wt) ∧ Hid (Kept (LFt X b k a (some ⟨gl, 0, none⟩) (some ⟨gu, 0, none⟩)) Wb w')) := fun W hW =>
    (RE.out W (Z1.out.1.quiet hW)).mono fun _ _ ⟨h1, h2, h3⟩ => ⟨h1, h2, (Z1.out.2.trans (Kept.of_below hW)).trans h3.out⟩
  clear RE
  have hz0 := FC.out _ _ _ Z1.out.1
  go_wp2
  go_quiet (fail)
  go_wp2
  go_quiet (fail)
  go_wp2
  go_region
  go_wp2
  go_region_held3 (fun W => (W.cell? ⟨X, 0, none⟩ = some (.pointer (some ⟨b, 0, none⟩)) ∧ W.cell? ⟨X, 1, none⟩ = some (.slice (some ⟨gl, 0, none⟩) n cl) ∧ W.cell? ⟨X, 2, none⟩ = some (.slice (some ⟨gu, 0, none⟩) n cu) ∧ W.cell? ⟨X, 3, none⟩ = some (.int .i64 ((S.now : Int) + wt)) ∧ X < W.heap.size) ∧ gl < W.heap.size ∧ W.cell? ⟨gl, K * 3, none⟩ = some (.int .i64 3) ∧ W.cell? ⟨gl, K * 3 + 1, none⟩ = some (.int .i64 i) ∧ W.cell? ⟨gl, K * 3 + 2, none⟩ = some (.int .u32 g)) (first | (with_reducible exact hz1) | (exact hz0)) (first
    | (go_at_call 15; (with_reducible refine (RE2.out _ (by exact ⟨rfl, rfl, rfl, Nat.le_refl _, fun _ _ => rfl⟩)).mono ?_); rintro e w5 ⟨rfl, HD, HK⟩; have hz1 := FC.out w5 _ _ HD.out))
  all_goals
    have HF : Hid (StP w0 w X b k a (some ⟨gl, 0, none⟩) (some ⟨gu, 0, none⟩) okb (j + 1) S w5) := BH.out.fin (HD.out.to HOK.out HLN.out) HON.out HK.out
    clear hz0 hz1 c0 c1 c2 c3 c4 c5 b1 b2 b3 q0 q1 q2 q3 q4 RE2
    go_wp2
    go_ret
    exact ⟨rfl, HF⟩
end Go.Proofs.Ytfemfgpciogbeaa
