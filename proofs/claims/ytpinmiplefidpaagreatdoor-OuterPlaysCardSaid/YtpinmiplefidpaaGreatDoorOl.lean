/- The contract of Copy. -/
import Derived.Test.YtpinmiplefidpaaGreatDoorOh
import Derived.Test.YtpinmiplefidpaaGreatDoorOb
import Derived.Deep.RegionWith
namespace Go.Proofs.YtpinmiplefidpaaGreatDoor
open Go.RowKit

theorem wcopy_no (p : Option Addr) (w : World) (h : WInv w p) : Calls Tryz.prog 26 #[.pointer p] w fun e w' => e = .returned (.pointer none) ∧ w = w' := by
  have H := Lib.hid h
  clear h
  go_enter Tryz.func26, Tryz.ntmps26
  go_wp2_with (go_at_call 62; refine (wvalid_no _ _ H.out).mono ?_; rintro e w' ⟨rfl, rfl⟩)
  go_ret
  exact ⟨rfl, rfl⟩
theorem six_cells {w : World} {c : Nat} {a0 a1 a2 a3 a4 a5 : Value} (h : Bk w c 105 #[a0, a1, a2, a3, a4, a5]) : w.cell? ⟨c, 0, none⟩ = some a0 ∧ w.cell? ⟨c, 1, none⟩ = some a1 ∧ w.cell? ⟨c, 2, none⟩ = some a2 ∧ w.cell? ⟨c, 3, none⟩ = some a3 ∧ w.cell? ⟨c, 4, none⟩ = some a4 ∧ w.cell? ⟨c, 5, none⟩ = some a5 ∧ w.frozen? ⟨c, 0, none⟩ = false ∧ w.frozen? ⟨c, 1, none⟩ = false ∧ w.frozen? ⟨c, 2, none⟩ = false ∧ w.frozen? ⟨c, 3, none⟩ = false ∧ w.frozen? ⟨c, 4, none⟩ = false :=
  ⟨h.cell 0, h.cell 1, h.cell 2, h.cell 3, h.cell 4, h.cell 5, h.frozen 0, h.frozen 1, h.frozen 2, h.frozen 3, h.frozen 4⟩
/-- Where Copy ends. -/
theorem copy_end {w w1 w2 w3 w4 w5 w6 w7 w8 w9 Wf : World} {A : Ad} {W : Wd} {x xk xm y yk ym z zk zm s' l' lb' : Nat} (h : WW w A W) (B0 : Below w.heap.size w w1) (LT0 : w.heap.size < w1.heap.size)
    (X0 : FD.FW w2 x xk xm W.F) (Y0 : ∀ g, FD.FFoot x xk xm g → w1.heap.size ≤ g) (K0 : Kept (· = w.heap.size) w1 w3) (Z0 : Kept (· = w.heap.size) w2 w3)
    (X1 : BF.PW w4 y yk ym W.P) (Y1 : ∀ g, BF.PFoot y yk ym g → w3.heap.size ≤ g) (K1 : Kept (· = w.heap.size) w3 w5) (Z1 : Kept (· = w.heap.size) w4 w5)
    (X2 : LS.DkW w6 z zk zm W.D) (Y2 : ∀ g, LS.DFoot z zk zm g → w5.heap.size ≤ g) (K2 : Kept (· = w.heap.size) w5 w7) (Z2 : Kept (· = w.heap.size) w6 w7)
    (HS : w7.drew.heap.size ≤ s' ∧ AN.SrcW 166 w8 s' W.L ∧ (∀ g, ASl w8 s' g → w7.drew.heap.size ≤ g) ∧ Below w7.drew.heap.size w7.drew w8)
    (HL : w8.heap.size ≤ l' ∧ LG.LedW w9 l' lb' w8.heap.size W.B ∧ Below w8.heap.size w8 w9) (KF : Kept (· = w.heap.size) w9 Wf) {n : Nat} (hn : n = Wf.heap.size)
    (NF : Bk Wf w.heap.size 105 #[.iface 94 (.agg #[.pointer (some ⟨x, 0, none⟩)]), .iface 96 (.agg #[.pointer (some ⟨y, 0, none⟩)]), .iface 98 (.agg #[.pointer (some ⟨z, 0, none⟩)]), .pointer (some ⟨s', 0, none⟩), .pointer (some ⟨l', 0, none⟩), .int .i64 W.T]) :
    ∃ A' : Ad, Ending.returned (.pointer (some ⟨n, 0, none⟩)) = .returned (ptr A'.b) ∧ WSt w (Wf.alloc (.cells #[.pointer (some ⟨w.heap.size, 0, none⟩)] 63)) A' W := by
  subst hn
  obtain ⟨s1, s2, s3, s4⟩ := HS
  obtain ⟨l1, l2, l3⟩ := HL
  have kd : Kept (· = w.heap.size) w7 w7.drew := (Kept.refl _ _).drew
  have k78 : Kept (· = w.heap.size) w7 w8 := kd.trans (Kept.of_below s4)
  have k8 : Kept (· = w.heap.size) w8 Wf := (Kept.of_below l3).trans KF
  have k7 : Kept (· = w.heap.size) w7 Wf := k78.trans k8
  have k5 : Kept (· = w.heap.size) w5 Wf := K2.trans k7
  have k3 : Kept (· = w.heap.size) w3 Wf := K1.trans k5
  have z3 := K0.size
  have z5 := K1.size
  have z7 := K2.size
  have z8 := k78.size
  have z9 := l3.size
  have e7 : w7.drew.heap.size = w7.heap.size := rfl
  rw [e7] at s1 s3
  have q0 : ∀ g, w1.heap.size ≤ g → ¬ g = w.heap.size := fun g h1 e => by omega
  have F3 := X0.kept Z0 fun g hg => q0 g (Y0 g hg)
  have F9 := F3.kept k3 fun g hg => q0 g (Y0 g hg)
  have P5 := X1.kept Z1 fun g hg => q0 g (Nat.le_trans z3 (Y1 g hg))
  have P9 := P5.kept k5 fun g hg => q0 g (Nat.le_trans z3 (Y1 g hg))
  have D7 := X2.kept Z2 fun g hg => q0 g (Nat.le_trans (Nat.le_trans z3 z5) (Y2 g hg))
  have D9 := D7.kept k7 fun g hg => q0 g (Nat.le_trans (Nat.le_trans z3 z5) (Y2 g hg))
  have hs8 : Wf.heap[s']? = w8.heap[s']? := k8.block _ s2.lt (by omega)
  have S9 := src_same (w' := Wf) s2 hs8 fun g hg => k8.block g (by obtain ⟨cur, hc⟩ := slice_of s2 hg; exact hc.lt) (by have := s3 g hg; omega)
  have hA : ∀ g, ASl Wf s' g ↔ ASl w8 s' g := fun g => ASl.same hs8
  obtain ⟨L9, hf⟩ := l2.kept KF (by omega) (fun g hg => by have := (l2.foot_le hg).1; omega)
  have kw : Below w.heap.size w Wf := B0.trans ((K0.trans k3).below (Nat.le_of_lt LT0) fun k e => by omega)
  have f3 := F3.foot_lt (g := xk) (.inr (.inl rfl))
  have f4 := F3.foot_lt (g := xm) (.inr (.inr rfl))
  have p3 := P5.foot_lt (g := ym) (.inr (.inr rfl))
  have p4 := Y1 ym (.inr (.inr rfl))
  have d3 := Y2 zk (.inr (.inl rfl))
  have bx := bel_new Wf (.cells #[.pointer (some ⟨w.heap.size, 0, none⟩)] 63)
  obtain ⟨L10, hf2⟩ := L9.below bx
  have hA2 : ∀ g, ASl (Wf.alloc (.cells #[.pointer (some ⟨w.heap.size, 0, none⟩)] 63)) s' g ↔ ASl w8 s' g := fun g => (ASl.same (bx.block _ S9.lt)).trans (hA g)
  have hf3 : ∀ g, LG.Foot (Wf.alloc (.cells #[.pointer (some ⟨w.heap.size, 0, none⟩)] 63)) lb' g → w8.heap.size ≤ g := fun g hg => (l2.foot_le ((hf g).1 ((hf2 g).1 hg))).1
  refine ⟨⟨Wf.heap.size, w.heap.size, x, xk, xm, y, yk, ym, z, zk, zm, s', l', lb', w8.heap.size⟩, rfl, ?_⟩
  exact assemble (⟨Wf.heap.size, w.heap.size, x, xk, xm, y, yk, ym, z, zk, zm, s', l', lb', w8.heap.size⟩ : Ad) W h.ok (kw.trans (bx.mono kw.size)) (Bk.new _ _ _) (NF.up _) (F9.below bx) (P9.below bx) (D9.below bx) (S9.below bx) L10
    (by show xk ≠ ym; omega) (by show xk ≠ zk; omega) (by show ym ≠ zk; omega) (fun g => by have : w8.heap.size ≤ xm := hf3 _ g; omega)
    (fun g hg x => by have h1 := hf3 g x; have h2 := (hA2 g).1 hg; obtain ⟨cur, hc⟩ := slice_of s2 h2; have := hc.lt; omega)
    kw.size (Nat.le_refl _) (fun g hg => Nat.le_trans (Nat.le_of_lt LT0) (Y0 g hg)) (fun g hg => by have := Y1 g hg; omega) (fun g hg => by have := Y2 g hg; omega) (by show w.heap.size ≤ s'; omega) (fun g hg => by have := s3 g ((hA2 g).1 hg); omega) (by show w.heap.size ≤ l'; omega) (by show w.heap.size ≤ w8.heap.size; omega)
set_option maxRecDepth 100000 in
set_option maxHeartbeats 1000000 in
theorem wcopy_ok (A : Ad) (W : Wd) (w : World) (h : WW w A W) :
    Calls Tryz.prog 26 #[ptr A.b] w fun e w' => ∃ A', e = .returned (ptr A'.b) ∧ WSt w w' A' W := by
  have H := Lib.hid h
  have hc := h.c0
  have h0 := h.p0
  have h1 := h.p1
  have h2 := h.p2
  have h3 := h.p3
  have h4 := h.p4
  have h5 := h.p5
  have n0 := Bk.new w 105 (pcells A W.T)
  have B0 := Lib.hid (bel_new w (.cells (pcells A W.T) 105))
  have hmF := mF_twin A.f
  have hmP := mP_twin A.q
  have hmD := mD_twin A.d
  have i0 : ∀ (f q d : Nat) (w : World), (Instr.index 101 (.agg #[.iface 94 (.agg #[.pointer (some ⟨f, 0, none⟩)]), .iface 96 (.agg #[.pointer (some ⟨q, 0, none⟩)]), .iface 98 (.agg #[.pointer (some ⟨d, 0, none⟩)])]) (.int .i64 0)).run Tryz.prog w = .ok (.iface 94 (.agg #[.pointer (some ⟨f, 0, none⟩)])) w := fun _ _ _ _ => by kernel_rfl
  have i1 : ∀ (f q d : Nat) (w : World), (Instr.index 101 (.agg #[.iface 94 (.agg #[.pointer (some ⟨f, 0, none⟩)]), .iface 96 (.agg #[.pointer (some ⟨q, 0, none⟩)]), .iface 98 (.agg #[.pointer (some ⟨d, 0, none⟩)])]) (.int .i64 1)).run Tryz.prog w = .ok (.iface 96 (.agg #[.pointer (some ⟨q, 0, none⟩)])) w := fun _ _ _ _ => by kernel_rfl
  have i2 : ∀ (f q d : Nat) (w : World), (Instr.index 101 (.agg #[.iface 94 (.agg #[.pointer (some ⟨f, 0, none⟩)]), .iface 96 (.agg #[.pointer (some ⟨q, 0, none⟩)]), .iface 98 (.agg #[.pointer (some ⟨d, 0, none⟩)])]) (.int .i64 2)).run Tryz.prog w = .ok (.iface 98 (.agg #[.pointer (some ⟨d, 0, none⟩)])) w := fun _ _ _ _ => by kernel_rfl
  clear h
  unfold pcells at *
  unfold ptr vF vP vD at *
  have N0 := Lib.hid n0
  obtain ⟨c0, c1, c2, c3, c4, c5, f0, f1, f2, f3, f4⟩ := six_cells n0
  clear n0
  have HT : Hid (∃ T, W.T = T) := ⟨_, rfl⟩
  generalize hWT : W.T = T at *
  have HWT := Lib.hid hWT
  clear hWT HT
  go_enter Tryz.func26, Tryz.ntmps26
  go_wp2_with (go_at_call 62; refine (wvalid_yes _ _ _ hc).mono ?_; rintro e w' ⟨rfl, rfl⟩)
  generalize w.alloc (.cells #[.iface 94 (.agg #[.pointer (some ⟨A.f, 0, none⟩)]), .iface 96 (.agg #[.pointer (some ⟨A.q, 0, none⟩)]), .iface 98 (.agg #[.pointer (some ⟨A.d, 0, none⟩)]), .pointer (some ⟨A.s, 0, none⟩), .pointer (some ⟨A.l, 0, none⟩), .int .i64 T] 105) = w1 at *
  refine wp_loop_rounds 4 ?_
  rw [rounds_succ]; go_wp2_with fail
  have LT0 : w.heap.size < w1.heap.size := N0.out.lt
  have TW := Lib.hid (twin_files A.f A.fk A.fm W.F w1 (H.out.below B0.out).1.hF)
  refine TW.out.mono ?_
  rintro e w2 ⟨x, rfl, hn⟩
  obtain ⟨xk, xm, hf1, hf2, hf3⟩ := hn.out
  have X0 := Lib.hid hf1
  have Y0 := Lib.hid hf2
  have HB := Lib.hid hf3
  obtain ⟨c0, c1, c2, c3, c4, c5, f0, f1, f2, f3, f4⟩ := six_cells (N0.out.below HB.out)
  have N1 := Lib.hid ((N0.out.below HB.out).put 0 (.iface 94 (.agg #[.pointer (some ⟨x, 0, none⟩)])))
  have K0 : Hid (Kept (· = w.heap.size) w1 (w2.setCell ⟨w.heap.size, 0, none⟩ (.iface 94 (.agg #[.pointer (some ⟨x, 0, none⟩)])))) := (Kept.of_below HB.out).put1 0 _
  have Z0 : Hid (Kept (· = w.heap.size) w2 (w2.setCell ⟨w.heap.size, 0, none⟩ (.iface 94 (.agg #[.pointer (some ⟨x, 0, none⟩)])))) := (Kept.refl _ _).put1 0 _
  clear hn hf1 hf2 hf3 hmF TW HB
  unfold vF
  go_wp2
  generalize w2.setCell ⟨w.heap.size, 0, none⟩ (.iface 94 (.agg #[.pointer (some ⟨x, 0, none⟩)])) = w3 at *
  simp only [Array.setIfInBounds, List.size_toArray, List.length_cons, List.length_nil, Nat.reduceAdd, Nat.reduceLT, dif_pos, Array.set, List.set_cons_zero] at N1
  have B3 : Hid (Below w.heap.size w w3) := B0.out.trans (K0.out.below (Nat.le_of_lt LT0) fun k e => by omega)
  have LT1 : w.heap.size < w3.heap.size := N1.out.lt
  clear c0 c1 c2 c3 c4 c5 f0 f1 f2 f3 f4
  obtain ⟨c0, c1, c2, c3, c4, c5, f0, f1, f2, f3, f4⟩ := six_cells N1.out
  rw [rounds_succ]; go_wp2_with fail
  have TW := Lib.hid (twin_buffers A.q A.qs A.qk W.P w3 (H.out.below B3.out).1.hP)
  refine TW.out.mono ?_
  rintro e w4 ⟨y, rfl, hn⟩
  obtain ⟨yk, ym, hf1, hf2, hf3⟩ := hn.out
  have X1 := Lib.hid hf1
  have Y1 := Lib.hid hf2
  have HB := Lib.hid hf3
  obtain ⟨c0, c1, c2, c3, c4, c5, f0, f1, f2, f3, f4⟩ := six_cells (N1.out.below HB.out)
  have N2 := Lib.hid ((N1.out.below HB.out).put 1 (.iface 96 (.agg #[.pointer (some ⟨y, 0, none⟩)])))
  have K1 : Hid (Kept (· = w.heap.size) w3 (w4.setCell ⟨w.heap.size, 1, none⟩ (.iface 96 (.agg #[.pointer (some ⟨y, 0, none⟩)])))) := (Kept.of_below HB.out).put1 1 _
  have Z1 : Hid (Kept (· = w.heap.size) w4 (w4.setCell ⟨w.heap.size, 1, none⟩ (.iface 96 (.agg #[.pointer (some ⟨y, 0, none⟩)])))) := (Kept.refl _ _).put1 1 _
  clear hn hf1 hf2 hf3 hmP TW HB
  unfold vP
  go_wp2
  generalize w4.setCell ⟨w.heap.size, 1, none⟩ (.iface 96 (.agg #[.pointer (some ⟨y, 0, none⟩)])) = w5 at *
  simp only [Array.setIfInBounds, List.size_toArray, List.length_cons, List.length_nil, Nat.reduceAdd, Nat.reduceLT, dif_pos, Array.set, List.set_cons_zero, List.set_cons_succ] at N2
  have B5 : Hid (Below w.heap.size w w5) := B3.out.trans (K1.out.below (Nat.le_of_lt LT1) fun k e => by omega)
  have LT2 : w.heap.size < w5.heap.size := N2.out.lt
  clear c0 c1 c2 c3 c4 c5 f0 f1 f2 f3 f4
  obtain ⟨c0, c1, c2, c3, c4, c5, f0, f1, f2, f3, f4⟩ := six_cells N2.out
  rw [rounds_succ]; go_wp2_with fail
  have TW := Lib.hid (twin_desk A.d A.dk A.da W.D w5 (H.out.below B5.out).1.hD)
  refine TW.out.mono ?_
  rintro e w6 ⟨z, rfl, hn⟩
  obtain ⟨zk, zm, hf1, hf2, hf3⟩ := hn.out
  have X2 := Lib.hid hf1
  have Y2 := Lib.hid hf2
  have HB := Lib.hid hf3
  obtain ⟨c0, c1, c2, c3, c4, c5, f0, f1, f2, f3, f4⟩ := six_cells (N2.out.below HB.out)
  have N3 := Lib.hid ((N2.out.below HB.out).put 2 (.iface 98 (.agg #[.pointer (some ⟨z, 0, none⟩)])))
  have K2 : Hid (Kept (· = w.heap.size) w5 (w6.setCell ⟨w.heap.size, 2, none⟩ (.iface 98 (.agg #[.pointer (some ⟨z, 0, none⟩)])))) := (Kept.of_below HB.out).put1 2 _
  have Z2 : Hid (Kept (· = w.heap.size) w6 (w6.setCell ⟨w.heap.size, 2, none⟩ (.iface 98 (.agg #[.pointer (some ⟨z, 0, none⟩)])))) := (Kept.refl _ _).put1 2 _
  clear hn hf1 hf2 hf3 hmD TW HB
  unfold vD
  go_wp2
  generalize w6.setCell ⟨w.heap.size, 2, none⟩ (.iface 98 (.agg #[.pointer (some ⟨z, 0, none⟩)])) = w7 at *
  simp only [Array.setIfInBounds, List.size_toArray, List.length_cons, List.length_nil, Nat.reduceAdd, Nat.reduceLT, dif_pos, Array.set, List.set_cons_zero, List.set_cons_succ] at N3
  have B7 : Hid (Below w.heap.size w w7) := B5.out.trans (K2.out.below (Nat.le_of_lt LT2) fun k e => by omega)
  have LT3 : w.heap.size < w7.heap.size := N3.out.lt
  clear c0 c1 c2 c3 c4 c5 f0 f1 f2 f3 f4
  obtain ⟨c0, c1, c2, c3, c4, c5, f0, f1, f2, f3, f4⟩ := six_cells N3.out
  rw [rounds_succ]; go_wp2_with fail
  have N4 := Lib.hid (show Bk w7.drew w.heap.size 105 _ from N3.out.same rfl)
  have D7 := Lib.hid (bel_drew (Below.refl w7.heap.size w7))
  have BD := Lib.hid (B7.out.trans (D7.out.mono B7.out.size))
  clear c0 c1 c2 c3 c4 c5 f0 f1 f2 f3 f4
  obtain ⟨c0, c1, c2, c3, c4, c5, f0, f1, f2, f3, f4⟩ := six_cells N4.out
  clear c0 c1 c2 c5 f0 f1 f2
  go_region_with (first
    | (go_at_call 85; refine (acopy_at A.s W.L _ (H.out.below BD.out).1.hS).mono ?_; rintro e w8 ⟨s', hsl, rfl, hs, ha, hb8⟩; have N5 := Lib.hid (N4.out.below hb8); have B8 := Lib.hid (BD.out.trans (hb8.mono BD.out.size)); obtain ⟨-, -, -, d3, d4, -, -, -, -, e3, e4⟩ := six_cells (N4.out.below hb8); have HSN := Lib.hid (And.intro hsl (And.intro hs (And.intro ha hb8))); clear hsl hs ha hb8)
    | (go_at_call 86; refine (LG.copy_ok A.l A.lb A.lo W.B _ (H.out.below B8.out).1.hL).mono ?_; rintro e w9 ⟨l', lb', rfl, hll, hL, hb9⟩; have N6 := Lib.hid (N5.out.below hb9); obtain ⟨-, -, -, g3, g4, -, -, -, -, u3, u4⟩ := six_cells (N5.out.below hb9); have HLN := Lib.hid (And.intro hll (And.intro hL hb9)); clear hll hL hb9))
  all_goals
    have KX : Hid (∀ v u, Kept (· = w.heap.size) w9 ((w9.setCell ⟨w.heap.size, 3, none⟩ v).setCell ⟨w.heap.size, 4, none⟩ u)) := fun v u => ((Kept.refl _ _).put1 3 v).put1 4 u
    have KY : Hid (∀ v u, Kept (· = w.heap.size) w9 ((w9.setCell ⟨w.heap.size, 4, none⟩ v).setCell ⟨w.heap.size, 3, none⟩ u)) := fun v u => ((Kept.refl _ _).put1 4 v).put1 3 u
    have NX := Lib.hid ((N6.out.put 3 (.pointer (some ⟨s', 0, none⟩))).put 4 (.pointer (some ⟨l', 0, none⟩)))
    have NY := Lib.hid ((N6.out.put 4 (.pointer (some ⟨l', 0, none⟩))).put 3 (.pointer (some ⟨s', 0, none⟩)))
    go_wp2
    go_ret
    first
      | exact copy_end H.out B0.out LT0 X0.out Y0.out K0.out Z0.out X1.out Y1.out K1.out Z1.out X2.out Y2.out K2.out Z2.out HSN.out HLN.out (KX.out _ _) (by simp) (by rw [HWT.out]; exact NX.out)
      | exact copy_end H.out B0.out LT0 X0.out Y0.out K0.out Z0.out X1.out Y1.out K1.out Z1.out X2.out Y2.out K2.out Z2.out HSN.out HLN.out (KY.out _ _) (by simp) (by rw [HWT.out]; exact NY.out)
end Go.Proofs.YtpinmiplefidpaaGreatDoor
