/- A move of the statements' desk: the ways where a lease is returned. -/
import Derived.Test.YtfemfgpciogbeaaYs
namespace Go.Proofs.Ytfemfgpciogbeaa
open Go.RowKit

set_option maxRecDepth 1000000 in
set_option maxHeartbeats 4000000 in
theorem step_ret0 {w0 w : World} {X b k a cl cu n j : Nat} {pl pu : Option Addr} {okb : Bool} {S : Lw} (h : LW w0 w X b k a pl cl pu cu n okb j S) (hj : j ≤ 150) (mw mk mi mt : Nat) (_m1 : mw ≤ 255) (_m2 : mk ≤ 255) (_m3 : mi ≤ 255) (_m4 : mt ≤ 255) (hk : mk % 4 = 2) (K u : Nat) (r : Nat × Nat) (hK : mi % n = K) (hn0 : 0 < n) (hr : S.L[K]? = some r) (hu : S.U[K]? = some u) (hu0 : u = 0) :
    Calls Try.prog 34 #[.pointer (some ⟨X, 0, none⟩), .agg #[.int .u8 mw, .int .u8 mk, .int .u8 mi, .int .u8 mt]] w fun e w' => e = .returned (.bool true) ∧ Hid (StP w0 w X b k a pl pu okb (j + 1) S w') := by
  have h1 := h.quiet (bal w (.cells #[.int .u8 mw, .int .u8 mk, .int .u8 mi, .int .u8 mt] 68))
  obtain ⟨c0, c1, c2, c3, c4, c5⟩ := h1.cells
  have f3 := h1.fz 3
  have hbox := Bk.new w 68 #[.int .u8 mw, .int .u8 mk, .int .u8 mi, .int .u8 mt]
  have b0 := hbox.cell 0
  simp only [List.getElem?_toArray, List.getElem?_cons_zero] at b0
  have hnow := h.ok.now
  have hll := h.ok.ll
  have hln := h.ln
  obtain ⟨wt, hw⟩ : ∃ x, mw % 8 = x := ⟨_, rfl⟩
  obtain ⟨kd, hkd⟩ : ∃ x, mk % 4 = x := ⟨_, rfl⟩
  obtain ⟨tk, htk⟩ : ∃ x, mt % 16 = x := ⟨_, rfl⟩
  have w1 : (mw : Int).tmod 8 = (wt : Int) := by rw [← hw]; exact tmod_nat _ 8
  have w2 : (mw : Int) % 8 = (wt : Int) := by rw [← hw]; exact emod_nat _ 8
  have k1 : (mk : Int).tmod 4 = (kd : Int) := by rw [← hkd]; exact tmod_nat _ 4
  have k2 : (mk : Int) % 4 = (kd : Int) := by rw [← hkd]; exact emod_nat _ 4
  have t1 : (mt : Int).tmod 16 = (tk : Int) := by rw [← htk]; exact tmod_nat _ 16
  have t2 : (mt : Int) % 16 = (tk : Int) := by rw [← htk]; exact emod_nat _ 16
  have wb : (wt : Int) ≤ 7 := by omega
  have kb : (kd : Int) ≤ 3 := by omega
  have tb : (tk : Int) ≤ 15 := by omega
  have nb : (S.now : Int) ≤ 1050 := by omega
  have BG := Beg.of h mw mk mi mt wt (by omega)
  obtain ⟨Wb, hWb⟩ : ∃ W, ((w.alloc (.cells #[.int .u8 mw, .int .u8 mk, .int .u8 mi, .int .u8 mt] 68)).setCell ⟨X, 3, none⟩ (.int .i64 ((S.now : Int) + wt))).drew = W := ⟨_, rfl⟩
  rw [hWb] at BG
  have HWb := Lib.hid hWb
  have BH := Lib.hid BG
  have lnz : (n : Int) ≤ 150 := by omega
  have hmod : (mi : Int).tmod (n : Int) = (K : Int) := by rw [← hK]; exact tmod_nat _ _
  have hmod2 : (mi : Int) % (n : Int) = (K : Int) := by rw [← hK]; exact emod_nat _ _
  have hKn : (K : Int) < n := by have : mi % n < n := Nat.mod_lt _ hn0; omega
  have hn1 : (0 : Int) < n := by omega
  have mb : (mi : Int) ≤ 255 := by omega
  obtain rfl : kd = 2 := by omega
  obtain ⟨rb1, rb2⟩ := h.ok.rg hr
  have RG : Hid (RgO 3 r.1 r.2) := ⟨by omega, by omega, by omega, by omega, by omega, by omega⟩
  have HLN := Lib.hid h.ln
  have HUN := Lib.hid h.un
  have HKU : Hid (K < S.U.length) := (List.getElem?_eq_some_iff.1 hu).1
  have R0 := Lib.hid (And.intro hr hu)
  have hok := BG.l.ok
  have uu := h.ok.uu K u hu
  subst hu0
  have HC : Hid (S.D.chk 3 r.1 r.2 = 7) := BG.l.ok.chk_zero hr hu
  have HOK : Hid (Lw.Ok ⟨S.D, S.L, S.U.set K 0, S.now + wt⟩ (j + 1)) := by unfold Hid; rw [Lw.set_zero S hu]; exact BG.l.ok
  have RE : Hid (∀ W, D0 w0 W X b k a pl cl pu cu n okb (j + 1) S.D S wt → Calls Try.prog 17 #[.pointer (some ⟨b, 0, none⟩), .agg #[.int .i64 3, .int .i64 r.1, .int .u32 r.2]] W fun e w' => e = .returned (.int .i64 7) ∧ Hid (D0 w0 w' X b k a pl cl pu cu n okb (j + 1) S.D S wt) ∧ Hid (Kept (LFt X b k a pl pu) W w')) := fun W hW => by
    have := ret_s 3 r.1 r.2 7 hW.ds RG.out HC.out
    have e : S.D.ret 3 r.1 r.2 = S.D := by unfold Dk.ret; rw [if_neg (by rw [HC.out]; decide)]
    rw [e] at this
    exact this.mono fun _ _ ⟨h1, h2, h3⟩ => ⟨h1, hW.step h3.out h2.out, kept_desk h3.out⟩
  clear hk hK hn0 hr hu hok uu rb1 rb2
  clear h h1 hbox hnow hll hln hw hkd htk hWb BG _m1 _m2 _m3 _m4
  go_enter Try.func34, Try.ntmps34
  go_wp2
  go_region
  rw [HWb.out]
  clear c0 c1 c2 c3 c4 c5 f3 b0
  obtain ⟨c0, c1, c2, c3, c4, c5⟩ := BH.out.l.cells
  have b1 := BH.out.box.cell 1
  have b2 := BH.out.box.cell 2
  have b3 := BH.out.box.cell 3
  simp only [List.getElem?_toArray, List.getElem?_cons_zero, List.getElem?_cons_succ, Int.natCast_add] at b1 b2 b3 c3
  have bl := BH.out.size
  have z0 := D0.of BH.out.l
  obtain ⟨gl, gu, rfl, rfl, l1, l2, q0, q1, q2, q3, q4⟩ := z0.reads HLN.out HUN.out R0.out.1 R0.out.2
  have FC : Hid (∀ W D, D0 w0 W X b k a (some ⟨gl, 0, none⟩) cl (some ⟨gu, 0, none⟩) cu n okb (j + 1) D S wt → (W.cell? ⟨X, 0, none⟩ = some (.pointer (some ⟨b, 0, none⟩)) ∧ W.cell? ⟨X, 1, none⟩ = some (.slice (some ⟨gl, 0, none⟩) n cl) ∧ W.cell? ⟨X, 2, none⟩ = some (.slice (some ⟨gu, 0, none⟩) n cu) ∧ W.cell? ⟨X, 3, none⟩ = some (.int .i64 ((S.now : Int) + wt)) ∧ X < W.heap.size) ∧ gl < W.heap.size ∧ gu < W.heap.size ∧ W.cell? ⟨gl, K * 3, none⟩ = some (.int .i64 3) ∧ W.cell? ⟨gl, K * 3 + 1, none⟩ = some (.int .i64 r.1) ∧ W.cell? ⟨gl, K * 3 + 2, none⟩ = some (.int .u32 r.2)) := fun W D h => by
    obtain ⟨gl', gu', e1, e2, a1, a2, a3, a4, a5, _⟩ := h.reads HLN.out HUN.out R0.out.1 R0.out.2
    injection e1 with e1
    injection e1 with e1
    injection e2 with e2
    injection e2 with e2
    subst e1 e2
    exact ⟨h.five, a1, a2, a3, a4, a5⟩
  obtain ⟨i, g⟩ := r
  simp only at q1 q2 FC RG
  have Z0 := Lib.hid z0
  have K0 : Hid (Kept (LFt X b k a (some ⟨gl, 0, none⟩) (some ⟨gu, 0, none⟩)) Wb Wb) := Kept.refl _ _
  clear z0
  have FU : Hid (∀ W D, D0 w0 W X b k a (some ⟨gl, 0, none⟩) cl (some ⟨gu, 0, none⟩) cu n okb (j + 1) D S wt → W.cell? ⟨gu, K, none⟩ = some (.int .i64 ((0 : Nat) : Int)) ∧ W.frozen? ⟨gu, K, none⟩ = false) := fun W D h => by
    obtain ⟨gl', gu', e1, e2, _, _, _, _, _, a6, a7⟩ := h.reads HLN.out HUN.out R0.out.1 R0.out.2
    injection e2 with e2
    injection e2 with e2
    subst e2
    exact ⟨a6, a7⟩
  have RE2 : Hid (∀ W, Below Wb.heap.size Wb W → Calls Try.prog 17 #[.pointer (some ⟨b, 0, none⟩), .agg #[.int .i64 3, .int .i64 i, .int .u32 g]] W fun e w' => e = .returned (.int .i64 7) ∧ Hid (D0 w0 w' X b k a (some ⟨gl, 0, none⟩) cl (some ⟨gu, 0, none⟩) cu n okb (j + 1) S.D S wt) ∧ Hid (Kept (LFt X b k a (some ⟨gl, 0, none⟩) (some ⟨gu, 0, none⟩)) Wb w')) := fun W hW =>
    (RE.out W (Z0.out.quiet hW)).mono fun _ _ ⟨h1, h2, h3⟩ => ⟨h1, h2, (Kept.of_below hW).trans h3.out⟩
  clear RE
  have hz0 := (FC.out _ _ Z0.out)
  go_wp2
  go_quiet (fail)
  go_wp2
  go_region_held3 (fun W => (W.cell? ⟨X, 0, none⟩ = some (.pointer (some ⟨b, 0, none⟩)) ∧ W.cell? ⟨X, 1, none⟩ = some (.slice (some ⟨gl, 0, none⟩) n cl) ∧ W.cell? ⟨X, 2, none⟩ = some (.slice (some ⟨gu, 0, none⟩) n cu) ∧ W.cell? ⟨X, 3, none⟩ = some (.int .i64 ((S.now : Int) + wt)) ∧ X < W.heap.size) ∧ gl < W.heap.size ∧ gu < W.heap.size ∧ W.cell? ⟨gl, K * 3, none⟩ = some (.int .i64 3) ∧ W.cell? ⟨gl, K * 3 + 1, none⟩ = some (.int .i64 i) ∧ W.cell? ⟨gl, K * 3 + 2, none⟩ = some (.int .u32 g)) (first | (with_reducible exact hz1) | (exact hz0)) (first
    | (go_at_call 17; (with_reducible refine (RE2.out _ (by exact ⟨rfl, rfl, rfl, Nat.le_refl _, fun _ _ => rfl⟩)).mono ?_); rintro e w5 ⟨rfl, HD, HK⟩; have hz1 := FC.out w5 _ HD.out; have hu1 := FU.out w5 _ HD.out))
  all_goals
    obtain ⟨⟨x0, x1, x2, x3, x4⟩, y1, y2, y3, y4, y5⟩ := hz1
    obtain ⟨v1, v2⟩ := hu1
    clear hz0 c0 c1 c2 c3 c4 c5 b1 b2 b3 q0 q1 q2 q3 q4 RE2
    obtain ⟨s1, s2⟩ := HD.out.storeu (q := K) (y := 0)
    rw [show ((0 : Nat) : Int) = 0 from rfl] at s1 s2
    have HF : Hid (StP w0 w X b k a (some ⟨gl, 0, none⟩) (some ⟨gu, 0, none⟩) okb (j + 1) S (w5.setCell ⟨gu, K, none⟩ (.int .i64 0))) := BH.out.fin (s1.to HOK.out HLN.out) (.inr (.inr ⟨K, 0, HKU.out, rfl⟩)) (HK.out.trans s2)
    clear s1 s2
    go_wp2
    go_ret
    exact ⟨rfl, HF⟩
set_option maxRecDepth 1000000 in
set_option maxHeartbeats 4000000 in
theorem step_ret1 {w0 w : World} {X b k a cl cu n j : Nat} {pl pu : Option Addr} {okb : Bool} {S : Lw} (h : LW w0 w X b k a pl cl pu cu n okb j S) (hj : j ≤ 150) (mw mk mi mt : Nat) (_m1 : mw ≤ 255) (_m2 : mk ≤ 255) (_m3 : mi ≤ 255) (_m4 : mt ≤ 255) (hk : mk % 4 = 2) (K u : Nat) (r : Nat × Nat) (hK : mi % n = K) (hn0 : 0 < n) (hr : S.L[K]? = some r) (hu : S.U[K]? = some u) (hu0 : 0 < u) :
    Calls Try.prog 34 #[.pointer (some ⟨X, 0, none⟩), .agg #[.int .u8 mw, .int .u8 mk, .int .u8 mi, .int .u8 mt]] w fun e w' => e = .returned (.bool true) ∧ Hid (StP w0 w X b k a pl pu okb (j + 1) S w') := by
  have h1 := h.quiet (bal w (.cells #[.int .u8 mw, .int .u8 mk, .int .u8 mi, .int .u8 mt] 68))
  obtain ⟨c0, c1, c2, c3, c4, c5⟩ := h1.cells
  have f3 := h1.fz 3
  have hbox := Bk.new w 68 #[.int .u8 mw, .int .u8 mk, .int .u8 mi, .int .u8 mt]
  have b0 := hbox.cell 0
  simp only [List.getElem?_toArray, List.getElem?_cons_zero] at b0
  have hnow := h.ok.now
  have hll := h.ok.ll
  have hln := h.ln
  obtain ⟨wt, hw⟩ : ∃ x, mw % 8 = x := ⟨_, rfl⟩
  obtain ⟨kd, hkd⟩ : ∃ x, mk % 4 = x := ⟨_, rfl⟩
  obtain ⟨tk, htk⟩ : ∃ x, mt % 16 = x := ⟨_, rfl⟩
  have w1 : (mw : Int).tmod 8 = (wt : Int) := by rw [← hw]; exact tmod_nat _ 8
  have w2 : (mw : Int) % 8 = (wt : Int) := by rw [← hw]; exact emod_nat _ 8
  have k1 : (mk : Int).tmod 4 = (kd : Int) := by rw [← hkd]; exact tmod_nat _ 4
  have k2 : (mk : Int) % 4 = (kd : Int) := by rw [← hkd]; exact emod_nat _ 4
  have t1 : (mt : Int).tmod 16 = (tk : Int) := by rw [← htk]; exact tmod_nat _ 16
  have t2 : (mt : Int) % 16 = (tk : Int) := by rw [← htk]; exact emod_nat _ 16
  have wb : (wt : Int) ≤ 7 := by omega
  have kb : (kd : Int) ≤ 3 := by omega
  have tb : (tk : Int) ≤ 15 := by omega
  have nb : (S.now : Int) ≤ 1050 := by omega
  have BG := Beg.of h mw mk mi mt wt (by omega)
  obtain ⟨Wb, hWb⟩ : ∃ W, ((w.alloc (.cells #[.int .u8 mw, .int .u8 mk, .int .u8 mi, .int .u8 mt] 68)).setCell ⟨X, 3, none⟩ (.int .i64 ((S.now : Int) + wt))).drew = W := ⟨_, rfl⟩
  rw [hWb] at BG
  have HWb := Lib.hid hWb
  have BH := Lib.hid BG
  have lnz : (n : Int) ≤ 150 := by omega
  have hmod : (mi : Int).tmod (n : Int) = (K : Int) := by rw [← hK]; exact tmod_nat _ _
  have hmod2 : (mi : Int) % (n : Int) = (K : Int) := by rw [← hK]; exact emod_nat _ _
  have hKn : (K : Int) < n := by have : mi % n < n := Nat.mod_lt _ hn0; omega
  have hn1 : (0 : Int) < n := by omega
  have mb : (mi : Int) ≤ 255 := by omega
  obtain rfl : kd = 2 := by omega
  obtain ⟨rb1, rb2⟩ := h.ok.rg hr
  have RG : Hid (RgO 3 r.1 r.2) := ⟨by omega, by omega, by omega, by omega, by omega, by omega⟩
  have HLN := Lib.hid h.ln
  have HUN := Lib.hid h.un
  have HKU : Hid (K < S.U.length) := (List.getElem?_eq_some_iff.1 hu).1
  have R0 := Lib.hid (And.intro hr hu)
  have hok := BG.l.ok
  have uu := h.ok.uu K u hu
  have huz : (0 : Int) < u := by omega
  have HC : Hid (S.D.chk 3 r.1 r.2 = 0) := (BG.l.ok.chk_pos hr hu hu0).1
  have HOK := Lib.hid (BG.l.ok.ret hr hu hu0)
  have RE : Hid (∀ W, D0 w0 W X b k a pl cl pu cu n okb (j + 1) S.D S wt → Calls Try.prog 17 #[.pointer (some ⟨b, 0, none⟩), .agg #[.int .i64 3, .int .i64 r.1, .int .u32 r.2]] W fun e w' => e = .returned (.int .i64 0) ∧ Hid (D0 w0 w' X b k a pl cl pu cu n okb (j + 1) (S.D.give r.1) S wt) ∧ Hid (Kept (LFt X b k a pl pu) W w')) := fun W hW => by
    have := ret_s 3 r.1 r.2 0 hW.ds RG.out HC.out
    have e : S.D.ret 3 r.1 r.2 = S.D.give r.1 := by unfold Dk.ret; rw [if_pos HC.out, Int.toNat_natCast]
    rw [e] at this
    exact this.mono fun _ _ ⟨h1, h2, h3⟩ => ⟨h1, hW.step h3.out h2.out, kept_desk h3.out⟩
  clear hu0
  clear hk hK hn0 hr hu hok uu rb1 rb2
  clear h h1 hbox hnow hll hln hw hkd htk hWb BG _m1 _m2 _m3 _m4
  go_enter Try.func34, Try.ntmps34
  go_wp2
  go_region
  rw [HWb.out]
  clear c0 c1 c2 c3 c4 c5 f3 b0
  obtain ⟨c0, c1, c2, c3, c4, c5⟩ := BH.out.l.cells
  have b1 := BH.out.box.cell 1
  have b2 := BH.out.box.cell 2
  have b3 := BH.out.box.cell 3
  simp only [List.getElem?_toArray, List.getElem?_cons_zero, List.getElem?_cons_succ, Int.natCast_add] at b1 b2 b3 c3
  have bl := BH.out.size
  have z0 := D0.of BH.out.l
  obtain ⟨gl, gu, rfl, rfl, l1, l2, q0, q1, q2, q3, q4⟩ := z0.reads HLN.out HUN.out R0.out.1 R0.out.2
  have FC : Hid (∀ W D, D0 w0 W X b k a (some ⟨gl, 0, none⟩) cl (some ⟨gu, 0, none⟩) cu n okb (j + 1) D S wt → (W.cell? ⟨X, 0, none⟩ = some (.pointer (some ⟨b, 0, none⟩)) ∧ W.cell? ⟨X, 1, none⟩ = some (.slice (some ⟨gl, 0, none⟩) n cl) ∧ W.cell? ⟨X, 2, none⟩ = some (.slice (some ⟨gu, 0, none⟩) n cu) ∧ W.cell? ⟨X, 3, none⟩ = some (.int .i64 ((S.now : Int) + wt)) ∧ X < W.heap.size) ∧ gl < W.heap.size ∧ gu < W.heap.size ∧ W.cell? ⟨gl, K * 3, none⟩ = some (.int .i64 3) ∧ W.cell? ⟨gl, K * 3 + 1, none⟩ = some (.int .i64 r.1) ∧ W.cell? ⟨gl, K * 3 + 2, none⟩ = some (.int .u32 r.2)) := fun W D h => by
    obtain ⟨gl', gu', e1, e2, a1, a2, a3, a4, a5, _⟩ := h.reads HLN.out HUN.out R0.out.1 R0.out.2
    injection e1 with e1
    injection e1 with e1
    injection e2 with e2
    injection e2 with e2
    subst e1 e2
    exact ⟨h.five, a1, a2, a3, a4, a5⟩
  obtain ⟨i, g⟩ := r
  simp only at q1 q2 FC RG
  have Z0 := Lib.hid z0
  have K0 : Hid (Kept (LFt X b k a (some ⟨gl, 0, none⟩) (some ⟨gu, 0, none⟩)) Wb Wb) := Kept.refl _ _
  clear z0
  have FU : Hid (∀ W D, D0 w0 W X b k a (some ⟨gl, 0, none⟩) cl (some ⟨gu, 0, none⟩) cu n okb (j + 1) D S wt → W.cell? ⟨gu, K, none⟩ = some (.int .i64 u) ∧ W.frozen? ⟨gu, K, none⟩ = false) := fun W D h => by
    obtain ⟨gl', gu', e1, e2, _, _, _, _, _, a6, a7⟩ := h.reads HLN.out HUN.out R0.out.1 R0.out.2
    injection e2 with e2
    injection e2 with e2
    subst e2
    exact ⟨a6, a7⟩
  have RE2 : Hid (∀ W, Below Wb.heap.size Wb W → Calls Try.prog 17 #[.pointer (some ⟨b, 0, none⟩), .agg #[.int .i64 3, .int .i64 i, .int .u32 g]] W fun e w' => e = .returned (.int .i64 0) ∧ Hid (D0 w0 w' X b k a (some ⟨gl, 0, none⟩) cl (some ⟨gu, 0, none⟩) cu n okb (j + 1) (S.D.give i) S wt) ∧ Hid (Kept (LFt X b k a (some ⟨gl, 0, none⟩) (some ⟨gu, 0, none⟩)) Wb w')) := fun W hW =>
    (RE.out W (Z0.out.quiet hW)).mono fun _ _ ⟨h1, h2, h3⟩ => ⟨h1, h2, (Kept.of_below hW).trans h3.out⟩
  clear RE
  have hz0 := (FC.out _ _ Z0.out)
  go_wp2
  go_quiet (fail)
  go_wp2
  go_region_held3 (fun W => (W.cell? ⟨X, 0, none⟩ = some (.pointer (some ⟨b, 0, none⟩)) ∧ W.cell? ⟨X, 1, none⟩ = some (.slice (some ⟨gl, 0, none⟩) n cl) ∧ W.cell? ⟨X, 2, none⟩ = some (.slice (some ⟨gu, 0, none⟩) n cu) ∧ W.cell? ⟨X, 3, none⟩ = some (.int .i64 ((S.now : Int) + wt)) ∧ X < W.heap.size) ∧ gl < W.heap.size ∧ gu < W.heap.size ∧ W.cell? ⟨gl, K * 3, none⟩ = some (.int .i64 3) ∧ W.cell? ⟨gl, K * 3 + 1, none⟩ = some (.int .i64 i) ∧ W.cell? ⟨gl, K * 3 + 2, none⟩ = some (.int .u32 g)) (first | (with_reducible exact hz1) | (exact hz0)) (first
    | (go_at_call 17; (with_reducible refine (RE2.out _ (by exact ⟨rfl, rfl, rfl, Nat.le_refl _, fun _ _ => rfl⟩)).mono ?_); rintro e w5 ⟨rfl, HD, HK⟩; have hz1 := FC.out w5 _ HD.out; have hu1 := FU.out w5 _ HD.out))
  all_goals
    obtain ⟨⟨x0, x1, x2, x3, x4⟩, y1, y2, y3, y4, y5⟩ := hz1
    obtain ⟨v1, v2⟩ := hu1
    clear hz0 c0 c1 c2 c3 c4 c5 b1 b2 b3 q0 q1 q2 q3 q4 RE2
    obtain ⟨s1, s2⟩ := HD.out.storeu (q := K) (y := 0)
    rw [show ((0 : Nat) : Int) = 0 from rfl] at s1 s2
    have HF : Hid (StP w0 w X b k a (some ⟨gl, 0, none⟩) (some ⟨gu, 0, none⟩) okb (j + 1) S (w5.setCell ⟨gu, K, none⟩ (.int .i64 0))) := BH.out.fin (s1.to HOK.out HLN.out) (.inr (.inr ⟨K, 0, HKU.out, rfl⟩)) (HK.out.trans s2)
    clear s1 s2
    go_wp2
    go_ret
    exact ⟨rfl, HF⟩
end Go.Proofs.Ytfemfgpciogbeaa
