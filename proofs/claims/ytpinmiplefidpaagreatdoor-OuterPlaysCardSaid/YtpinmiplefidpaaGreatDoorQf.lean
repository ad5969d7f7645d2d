/- The document's world: Acquire. -/
import Derived.Test.YtpinmiplefidpaaGreatDoorQe
namespace Go.Proofs.YtpinmiplefidpaaGreatDoor
open Go.RowKit

theorem racq_ret {B : Nat} {E : Int} {W : World} {x y z : Value} {P : Ending → World → Prop} {a : Act} (hN : Bk W B 25 #[x, y, z]) (h4 : a.tmps[6]? = some (.pointer (some ⟨B, 0, none⟩))) (h5 : a.tmps[7]? = some (.int .i64 E)) (hd : a.defers = [])
    (hP : P (.returned (.tuple #[.agg #[x, y, z], .int .i64 E])) W) : bodyPost Tryz.prog Tryz.f17 P Exit.ret a W := by
  have c0 : W.cell? ⟨B, 0, none⟩ = some x := hN.cell 0
  have c1 : W.cell? ⟨B, 1, none⟩ = some y := hN.cell 1
  have c2 : W.cell? ⟨B, 2, none⟩ = some z := hN.cell 2
  have e4 : a.tmps.getD 6 undef = .pointer (some ⟨B, 0, none⟩) := by rw [Array.getD_eq_getD_getElem?, h4]; rfl
  have e5 : a.tmps.getD 7 undef = .int .i64 E := by rw [Array.getD_eq_getD_getElem?, h5]; rfl
  refine bodyPost_ret (v := .tuple #[.agg #[x, y, z], .int .i64 E]) ?_ hd hP
  rw [results_cell_tmp rfl, e4, e5]
  go_simp
/-- What Acquire leaves. -/
def AcqV (x : Rx) (U : Wd) (w : World) (w' : World) : Prop := ∃ y, RW w' y U ∧ RStep x y w w'
theorem AcqV.of {x y : Rx} {U : Wd} {w w1 w2 : World} {R : Nat} {cs : Array Value} (h : RStep x y w w1) (f : RW w1 y U) (hR : w.heap.size ≤ R) (hb : Bk w1 R 25 cs) (q : Kept (· = R) w1 w2) : AcqV x U w w2 := by
  obtain ⟨h1, h2⟩ := h.box f hR (f.off hb) q
  exact ⟨y, h1, h2⟩
theorem Wd.a_of {W : Wd} {k a : Int} (hg : goodK k a = true) (hE : W.rE k a = 0) : W.gE k a = 0 := by rw [Wd.gE_good hg, hE]
set_option maxRecDepth 100000 in
set_option maxHeartbeats 4000000 in
theorem racq_ok (x : Rx) (W : Wd) (k a K I N E : Int) (w : World) (h : RW w x W) (eK : W.aK k a = K) (eI : W.aI k a = I) (eN : W.aG k a = N) (eE : W.aE k a = E) :
    Calls Tryz.prog 17 #[ptr x.r, .int .i64 k, .int .i64 a] w fun e w' => e = .returned (.tuple #[.agg #[.int .i64 K, .int .i64 I, .int .u32 N], .int .i64 E]) ∧ Hid (AcqV x (W.acq k a) w w') := by
  have HB0 := bel_new w (.cells #[.int .i64 0, .int .i64 0, .int .u32 0] 25)
  have B0 := Lib.hid HB0
  have N0 := Lib.hid (Bk.new w 25 #[.int .i64 0, .int .i64 0, .int .u32 0])
  have H0 := Lib.hid h
  have H1 := Lib.hid (h.below HB0).1
  have c0 := H1.out.c0
  clear h HB0
  have W1 : ∃ w1, w.alloc (.cells #[.int .i64 0, .int .i64 0, .int .u32 0] 25) = w1 := ⟨_, rfl⟩
  obtain ⟨w1, hw1⟩ := W1
  rw [hw1] at B0 N0 H1 c0
  have W1 := Lib.hid hw1
  clear hw1
  unfold ptr
  by_cases hg : goodK k a = true
  · have GD := Lib.hid (fun v => rgood_is k a true v hg)
    have CP := Lib.hid (rwcopy_ok x W w1 H1.out)
    unfold ptr at CP
    obtain ⟨E0, hE0⟩ : ∃ E0, W.rE k a = E0 := ⟨_, rfl⟩
    have GT := Lib.hid (fun (y : Rx) v (hv : RW v y W) => rget_ok y W k a _ _ _ E0 v hv hg rfl rfl rfl hE0)
    unfold ptr at GT
    generalize W.rK k a = K0 at GT
    generalize W.rI k a = I0 at GT
    generalize W.rG k a = G0 at GT
    by_cases hz : E0 = 0
    · subst hz
      have hgE := Wd.a_of hg hE0
      have NX := Lib.hid (fun v (hv : RW v x W) => AN.rnext_at x.s W.L v hv.hS)
      have hans := H0.out.ok.ans
      have hHn : Hid (W.L.headD 1 = W.h) := rfl
      rw [hHn.out] at NX
      obtain ⟨h', hh⟩ : ∃ h', W.h = h' := ⟨_, rfl⟩
      rw [hh] at NX hans
      have HEE : Hid (E = if h' = 2 then 15 else if h' = 3 then 14 else 0) := by
        unfold Hid
        rw [← eE, ← hh]
        unfold Wd.aE
        rw [if_pos hgE]
      have HST : Hid (W.acq k a = if E = 0 then W.next.got k a else W.next) := by
        unfold Hid Wd.acq
        rw [if_pos hgE, eE]
      have HKN : Hid (E ≠ 0 → K = 0 ∧ I = 0 ∧ N = 0) := fun c => by
        have hz : W.aE k a ≠ 0 := by rw [eE]; exact c
        exact ⟨by rw [← eK]; unfold Wd.aK; rw [if_neg hz], by rw [← eI]; unfold Wd.aI; rw [if_neg hz], by rw [← eN]; unfold Wd.aG; rw [if_neg hz]⟩
      have HKZ : Hid (E = 0 → W.next.rK k a = K ∧ W.next.rI k a = I ∧ W.next.rG k a = N) := fun c => by
        have hz : W.aE k a = 0 := by rw [eE]; exact c
        exact ⟨by rw [← eK]; unfold Wd.aK; rw [if_pos hz]; rfl, by rw [← eI]; unfold Wd.aI; rw [if_pos hz]; rfl, by rw [← eN]; unfold Wd.aG; rw [if_pos hz]; rfl⟩
      have HRE : Hid (W.next.rE k a = 0) := hE0
      have HG := Lib.hid hg
      clear hg hgE hE0 hh eK eI eN eE
      go_enter Tryz.func17, Tryz.ntmps17
      go_wp2_with fail
      rw [W1.out]
      refine (rv_yes _ _ c0).mono ?_
      rintro e w' ⟨rfl, rfl⟩
      go_wp2_with fail
      refine (GD.out _).mono ?_
      rintro e w' ⟨rfl, rfl⟩
      go_wp2_with fail
      refine CP.out.mono ?_
      rintro e w2 ⟨y, rfl, hy⟩
      have Y2 := Lib.hid hy
      clear hy c0 CP GD
      go_wp2_with fail
      refine (GT.out y w2 Y2.out.f).mono ?_
      rintro e w3 ⟨rfl, hv⟩
      have B3 : Hid (Below w1.heap.size w1 w3) := by
        obtain ⟨z, hz1, hz2⟩ := hv.out
        exact (Y2.out.step hz2 hz1).bel
      clear hv Y2 GT
      have HB4 := bel2 B3.out (bel_new w3 (.cells #[.int .i64 K0, .int .i64 I0, .int .u32 G0] 25))
      have H4 := Lib.hid (H1.out.below HB4).1
      have Q4 := Lib.hid (H0.out.quiet (bel2 B0.out HB4))
      have N4 := Lib.hid (N0.out.below HB4)
      clear HB4 B3
      have c4 := H4.out.c4
      unfold ptr at c4
      go_wp2_with fail
      generalize w3.alloc (.cells #[.int .i64 K0, .int .i64 I0, .int .u32 G0] 25) = w4 at *
      refine (NX.out w4 H4.out).mono ?_
      rintro e w5 ⟨rfl, hs1, hs2, hs3⟩
      have hst := H4.out.stepAt hs2 hs1 (fun P _ hP => hs3.out P hP) H0.out.ok.next
      have hnb := N4.out.kept hst.2.k (H4.out.off N4.out)
      have H5 : Hid (RW w5 x W.next) := hst.1
      have Q5 := Lib.hid (Q4.out.trans hst.2)
      have N5 := Lib.hid hnb
      clear hs1 hs2 hs3 hst hnb NX H4 Q4 N4 c4
      obtain rfl | rfl | rfl : h' = 1 ∨ h' = 2 ∨ h' = 3 := by omega
      · have hE1 : E = 0 := HEE.out
        subst hE1
        obtain ⟨k1, k2, k3⟩ := HKZ.out rfl
        have G2 := Lib.hid (rget_ok x W.next k a K I N 0 w5 H5.out HG.out k1 k2 k3 HRE.out)
        unfold ptr at G2
        have hacq : W.acq k a = W.next.got k a := HST.out
        have HA := Lib.hid hacq
        clear k1 k2 k3 hacq
        go_wp2_with fail
        refine G2.out.mono ?_
        rintro e w6 ⟨rfl, hv⟩
        obtain ⟨z, hz1, hz2⟩ := hv.out
        have N6 := Lib.hid (N5.out.kept hz2.k (H5.out.off N5.out))
        have H6 := Lib.hid hz1
        have Q6 := Lib.hid (Q5.out.trans hz2)
        clear hv hz1 hz2 G2
        have f0 := N6.out.frozen 0
        have f1 := N6.out.frozen 1
        have f2 := N6.out.frozen 2
        obtain ⟨n0, n1, n2⟩ := LS.cells3 N6.out

        go_wp2
        obtain ⟨hN, hK6⟩ := FD.put3 N6.out (.int .i64 K) (.int .i64 I) (.int .u32 N)
        exact racq_ret hN rfl rfl rfl ⟨rfl, by rw [HA.out]; exact AcqV.of Q6.out H6.out (Nat.le_refl _) N6.out hK6⟩
      · have hE1 : E = 15 := HEE.out
        subst hE1
        obtain ⟨rfl, rfl, rfl⟩ := HKN.out (by decide)
        have hacq : W.acq k a = W.next := HST.out
        have HA := Lib.hid hacq
        clear hacq
        have f0 := N5.out.frozen 0
        have f1 := N5.out.frozen 1
        have f2 := N5.out.frozen 2
        obtain ⟨n0, n1, n2⟩ := LS.cells3 N5.out

        go_wp2
        obtain ⟨hN, hK6⟩ := FD.put3 N5.out (.int .i64 0) (.int .i64 0) (.int .u32 0)
        exact racq_ret hN rfl rfl rfl ⟨rfl, by rw [HA.out]; exact AcqV.of Q5.out H5.out (Nat.le_refl _) N5.out hK6⟩
      · have hE1 : E = 14 := HEE.out
        subst hE1
        obtain ⟨rfl, rfl, rfl⟩ := HKN.out (by decide)
        have hacq : W.acq k a = W.next := HST.out
        have HA := Lib.hid hacq
        clear hacq
        have f0 := N5.out.frozen 0
        have f1 := N5.out.frozen 1
        have f2 := N5.out.frozen 2
        obtain ⟨n0, n1, n2⟩ := LS.cells3 N5.out

        go_wp2
        obtain ⟨hN, hK6⟩ := FD.put3 N5.out (.int .i64 0) (.int .i64 0) (.int .u32 0)
        exact racq_ret hN rfl rfl rfl ⟨rfl, by rw [HA.out]; exact AcqV.of Q5.out H5.out (Nat.le_refl _) N5.out hK6⟩
    · have hgE : W.gE k a ≠ 0 := by rw [Wd.gE_good hg, hE0]; exact hz
      have hEE : E = E0 := by
        rw [← eE, ← hE0]
        unfold Wd.aE
        rw [if_neg hgE, Wd.gE_good hg]
      have hzz : W.aE k a ≠ 0 := by rw [eE, hEE]; exact hz
      have hK0 : K = 0 := by rw [← eK]; unfold Wd.aK; rw [if_neg hzz]
      have hI0 : I = 0 := by rw [← eI]; unfold Wd.aI; rw [if_neg hzz]
      have hN0 : N = 0 := by rw [← eN]; unfold Wd.aG; rw [if_neg hzz]
      have hacq : W.acq k a = W := by unfold Wd.acq; rw [if_neg hgE]
      subst hEE hK0 hI0 hN0
      rw [hacq]
      have d : (E != 0) = true := by simpa using hz
      clear hg hgE hE0 hzz eK eI eN eE hacq hz
      go_enter Tryz.func17, Tryz.ntmps17
      go_wp2_with fail
      rw [W1.out]
      refine (rv_yes _ _ c0).mono ?_
      rintro e w' ⟨rfl, rfl⟩
      go_wp2_with fail
      refine (GD.out _).mono ?_
      rintro e w' ⟨rfl, rfl⟩
      go_wp2_with fail
      refine CP.out.mono ?_
      rintro e w2 ⟨y, rfl, hy⟩
      have Y2 := Lib.hid hy
      clear hy c0 CP GD
      go_wp2_with fail
      refine (GT.out y w2 Y2.out.f).mono ?_
      rintro e w3 ⟨rfl, hv⟩
      have B3 : Hid (Below w1.heap.size w1 w3) := by
        obtain ⟨z, hz1, hz2⟩ := hv.out
        exact (Y2.out.step hz2 hz1).bel
      clear hv Y2 GT
      have HB4 := bel2 B3.out (bel_new w3 (.cells #[.int .i64 K0, .int .i64 I0, .int .u32 G0] 25))
      have H4 := Lib.hid (H1.out.below HB4).1
      have Q4 := Lib.hid (H0.out.quiet (bel2 B0.out HB4))
      have N4 := Lib.hid (N0.out.below HB4)
      clear HB4 B3
      have f0 := N4.out.frozen 0
      have f1 := N4.out.frozen 1
      have f2 := N4.out.frozen 2
      obtain ⟨n0, n1, n2⟩ := LS.cells3 N4.out

      go_wp2
      obtain ⟨hN, hK6⟩ := FD.put3 N4.out (.int .i64 0) (.int .i64 0) (.int .u32 0)
      exact racq_ret hN rfl rfl rfl ⟨rfl, AcqV.of Q4.out H4.out (Nat.le_refl _) N4.out hK6⟩
  · have hg' : goodK k a = false := by simpa using hg
    have GD := Lib.hid (fun v => rgood_is k a false v hg')
    have hgE := Wd.gE_bad (W := W) hg'
    have hEE : E = 2 := by
      rw [← eE]
      unfold Wd.aE
      rw [if_neg (by rw [hgE]; decide), hgE]
    have hzz : W.aE k a ≠ 0 := by rw [eE, hEE]; decide
    have hK0 : K = 0 := by rw [← eK]; unfold Wd.aK; rw [if_neg hzz]
    have hI0 : I = 0 := by rw [← eI]; unfold Wd.aI; rw [if_neg hzz]
    have hN0 : N = 0 := by rw [← eN]; unfold Wd.aG; rw [if_neg hzz]
    have hacq : W.acq k a = W := by unfold Wd.acq; rw [if_neg (by rw [hgE]; decide)]
    subst hEE hK0 hI0 hN0
    rw [hacq]
    clear hg hg' hgE hzz eK eI eN eE hacq
    have Q1 := Lib.hid (H0.out.quiet B0.out)
    have f0 := N0.out.frozen 0
    have f1 := N0.out.frozen 1
    have f2 := N0.out.frozen 2
    obtain ⟨n0, n1, n2⟩ := LS.cells3 N0.out

    go_enter Tryz.func17, Tryz.ntmps17
    go_wp2_with fail
    rw [W1.out]
    refine (rv_yes _ _ c0).mono ?_
    rintro e w' ⟨rfl, rfl⟩
    go_wp2_with fail
    refine (GD.out _).mono ?_
    rintro e w' ⟨rfl, rfl⟩
    go_wp2
    obtain ⟨hN, hK6⟩ := FD.put3 N0.out (.int .i64 0) (.int .i64 0) (.int .u32 0)
    exact racq_ret hN rfl rfl rfl ⟨rfl, AcqV.of Q1.out H1.out (Nat.le_refl _) N0.out hK6⟩
end Go.Proofs.YtpinmiplefidpaaGreatDoor
