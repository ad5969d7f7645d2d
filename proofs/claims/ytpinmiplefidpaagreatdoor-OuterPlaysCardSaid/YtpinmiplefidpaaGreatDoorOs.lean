/- The contract of Release, where the resource is given back. -/
import Derived.Test.YtpinmiplefidpaaGreatDoorOq
namespace Go.Proofs.YtpinmiplefidpaaGreatDoor
open Go.RowKit

theorem BF_unpin (b s k : Nat) (P : BF.Po) (x y z : Int) (_hr : RgO x y z) (w : World) (h : BF.PW w b s k P) : Calls Tryz.prog 204 #[.pointer (some ⟨b, 0, none⟩), .agg #[.int .i64 x, .int .i64 y, .int .u32 z]] w fun e w' => e = .returned (.int .i64 (P.chk x y z)) ∧ BF.PW w' b s k (P.unpin x y z) ∧ Kept (BF.PFoot b s k) w w' := by
  refine (BF.punpin_any b s k P x y z w h).mono ?_
  rintro e w' ⟨rfl, h1, h2⟩
  exact ⟨rfl, h1, h2.mono fun g _ hg => .inr (.inr hg)⟩
set_option maxRecDepth 100000 in
set_option maxHeartbeats 1000000 in
theorem rel_file (A : Ad) (W : Wd) (k i g y : Int) (w : World) (h : WW w A W) (he : LG.EnvL w) (hr : RgO k i g) (hy : I64 y) (hp : Poss k i g) (hw : 1 ≤ y ∧ y ≤ 3) (hh : W.Here k i g) (hl : W.B.length < 10000) (hz1 : W.h = 1) (hk : k = 1) :
    Calls Tryz.prog 18 #[ptr A.b, .agg #[.int .i64 k, .int .i64 i, .int .u32 g], .int .i64 y] w fun e w' => e = .returned (.tuple #[.int .i64 1, .int .i64 0]) ∧ WW w' A ((W.tried k i g y).back k i g) ∧ WStep A w w' := by
  have HP := Lib.hid (And.intro hp hw)
  have HX2 : Hid (W.Here k i g) := hh
  have HAE : Hid (LG.addE W.B (W.att k i g y) = 0) := (attA h.ok hp hr.g1 hw).trans (if_neg (by omega))
  have HAL : Hid (LG.addL W.B (W.att k i g y) = W.B ++ [W.att k i g y]) := by unfold Hid LG.addL; rw [HAE.out]; rfl
  have hlE : W.lE k i g y = 0 := by unfold Wd.lE; rw [if_neg (not_not_intro ⟨hp, hw⟩), if_neg (not_not_intro hh), if_neg (by omega)]
  have HTR : Hid (W.tried k i g y).Ok := h.ok.tried hlE
  have HOK : Hid (Wd.Ok { W with B := LG.addL W.B (W.att k i g y) }) := by
    rw [HAL.out]
    exact ⟨h.ok.F, h.ok.nF, h.ok.P, h.ok.nP, h.ok.D, h.ok.nD, h.ok.L, HTR.out.B, HTR.out.lB, h.ok.T0, h.ok.T1, HTR.out.TB⟩
  have HZ1 := Lib.hid hz1
  clear hp hw hh hl hz1 hlE
  subst hk
  have hmg := mF_giving A.f
  have B0 := bel_new w (.cells #[.int .i64 1, .int .i64 i, .int .u32 g] 25)
  have HB0 := Lib.hid B0
  have n0 := Bk.new w 25 #[.int .i64 1, .int .i64 i, .int .u32 g]
  have HH := Lib.hid h
  have H := Lib.hid (h.below B0).1
  have N0 := Lib.hid n0
  have HE := Lib.hid (he.below B0)
  have hc := H.out.c0
  clear h B0 n0 he
  generalize hw1 : w.alloc (.cells #[.int .i64 1, .int .i64 i, .int .u32 g] 25) = w1 at *
  have HR := Lib.hid hr
  have HY := Lib.hid hy
  clear hr hy
  unfold ptr at *
  have D1 := Lib.hid (bel_drew (Below.refl w1.heap.size w1))
  have LT := Lib.hid (show w.heap.size < w1.heap.size from N0.out.lt)
  obtain ⟨o0, o1, o2⟩ := LS.cells3 (N0.out.below D1.out)
  have h5 := (H.out.below D1.out).1.p5
  have CM : Hid (∀ W' : World, Below w1.heap.size w1 W' → Calls Tryz.prog 69 #[.pointer (some ⟨A.p, 0, none⟩)] W' fun e w' => e = .returned (.int .i64 W.h) ∧ Below W'.heap.size W' w') := fun W' hB => coming_ok A W W' (H.out.below hB).1
  have SC : Hid (∀ W' : World, Below w1.heap.size w1 W' → W'.cell? ⟨A.p, 5, none⟩ = some (.int .i64 W.T) ∧ W'.cell? ⟨w.heap.size, 0, none⟩ = some (.int .i64 1) ∧ W'.cell? ⟨w.heap.size, 1, none⟩ = some (.int .i64 i) ∧ W'.cell? ⟨w.heap.size, 2, none⟩ = some (.int .u32 g)) := fun W' hB => ⟨(H.out.below hB).1.p5, LS.cells3 (N0.out.below hB)⟩
  have DA : Hid (∀ o, Below w1.heap.size w1 (w1.alloc o).drew) := fun o => bel_drew (bel_new w1 _)
  have PB : Hid (∀ (W' : World) (a0 a1 a2 a3 a4 a5 : Value), Below w1.heap.size w1 W' → Below w1.heap.size w1 (put6 W' w1.heap.size a0 a1 a2 a3 a4 a5)) := fun W' a0 a1 a2 a3 a4 a5 hB => hB.trans ((put6_kept W' w1.heap.size a0 a1 a2 a3 a4 a5).below hB.size fun k e => by subst e; exact Nat.le_refl _)
  obtain ⟨T, hT⟩ : ∃ T, W.T = T := ⟨_, rfl⟩
  obtain ⟨z, hz⟩ : ∃ z, W.h = z := ⟨_, rfl⟩
  rw [hT] at h5 SC
  rw [hz] at CM
  have HTT := Lib.hid hT
  have HZZ := Lib.hid hz
  have hatt : W.att 1 i g y = ⟨T, 1, i, g, y, z⟩ := by unfold Wd.att; rw [hT, hz]
  clear hT hz
  have AT := Lib.hid hatt
  clear hatt
  go_enter Tryz.func18, Tryz.ntmps18
  go_wp2_with (go_at_call 62; refine (wvalid_yes _ _ _ hc).mono ?_; rintro e w' ⟨rfl, rfl⟩)
  clear hc
  go_region_held3 (fun W => W.cell? ⟨A.p, 5, none⟩ = some (.int .i64 T) ∧ W.cell? ⟨w.heap.size, 0, none⟩ = some (.int .i64 1) ∧ W.cell? ⟨w.heap.size, 1, none⟩ = some (.int .i64 i) ∧ W.cell? ⟨w.heap.size, 2, none⟩ = some (.int .u32 g)) (first | (with_reducible exact CB) | (with_reducible exact SC.out _ (DA.out _)) | (with_reducible exact SC.out _ (bel_alloc B2.out _)) | (with_reducible exact SC.out _ (PB.out _ _ _ _ _ _ _ B2.out)) | exact ⟨h5, o0, o1, o2⟩) (first
    | (go_at_call 69; (with_reducible refine (CM.out _ (DA.out (.cells #[.int .i64 0, .int .i64 0, .int .i64 0, .int .u32 0, .int .i64 0, .int .i64 0] 70))).mono ?_); rintro e w2 ⟨rfl, hb2⟩; have B2 := Lib.hid (bel2 (DA.out _) hb2); have CB := SC.out w2 B2.out; have HX := Lib.hid ((show Bk (w1.alloc (.cells #[.int .i64 0, .int .i64 0, .int .i64 0, .int .u32 0, .int .i64 0, .int .i64 0] 70)).drew w1.heap.size 70 #[.int .i64 0, .int .i64 0, .int .i64 0, .int .u32 0, .int .i64 0, .int .i64 0] from Bk.new w1 _ _).below hb2); obtain ⟨x0, x1, x2, x3, x4, x5⟩ := cells6 HX.out; obtain ⟨f0, f1, f2, f3, f4, f5⟩ := fz6 HX.out; clear hb2)
    | (go_at_call 69; (with_reducible refine (CM.out _ D1.out).mono ?_); rintro e w2 ⟨rfl, hb2⟩; have B2 := Lib.hid (bel2 D1.out hb2); have CB := SC.out w2 B2.out; clear hb2))
  all_goals
    first
      | (have BF : Hid (Below w1.heap.size w1 (w2.alloc (.cells #[.int .i64 T, .int .i64 1, .int .i64 i, .int .u32 g, .int .i64 y, .int .i64 z] 70))) := bel_alloc B2.out _
         have NF : Hid (Bk (w2.alloc (.cells #[.int .i64 T, .int .i64 1, .int .i64 i, .int .u32 g, .int .i64 y, .int .i64 z] 70)) w2.heap.size 70 #[.int .i64 T, .int .i64 1, .int .i64 i, .int .u32 g, .int .i64 y, .int .i64 z]) := Bk.new w2 _ _
         obtain ⟨G, hG⟩ : ∃ G, w2.heap.size = G := ⟨_, rfl⟩
         rw [hG] at NF ⊢
         generalize w2.alloc (.cells #[.int .i64 T, .int .i64 1, .int .i64 i, .int .u32 g, .int .i64 y, .int .i64 z] 70) = w3 at *
         have GLT : Hid (w1.heap.size ≤ G) := by rw [← hG]; exact B2.out.size
         clear hG)
      | (have BF : Hid (Below w1.heap.size w1 ((((((w2.setCell ⟨w1.heap.size, 0, none⟩ (.int .i64 T)).setCell ⟨w1.heap.size, 1, none⟩ (.int .i64 1)).setCell ⟨w1.heap.size, 2, none⟩ (.int .i64 i)).setCell ⟨w1.heap.size, 3, none⟩ (.int .u32 g)).setCell ⟨w1.heap.size, 4, none⟩ (.int .i64 y)).setCell ⟨w1.heap.size, 5, none⟩ (.int .i64 z))) := PB.out w2 _ _ _ _ _ _ B2.out
         have NF : Hid (Bk ((((((w2.setCell ⟨w1.heap.size, 0, none⟩ (.int .i64 T)).setCell ⟨w1.heap.size, 1, none⟩ (.int .i64 1)).setCell ⟨w1.heap.size, 2, none⟩ (.int .i64 i)).setCell ⟨w1.heap.size, 3, none⟩ (.int .u32 g)).setCell ⟨w1.heap.size, 4, none⟩ (.int .i64 y)).setCell ⟨w1.heap.size, 5, none⟩ (.int .i64 z)) w1.heap.size 70 #[.int .i64 T, .int .i64 1, .int .i64 i, .int .u32 g, .int .i64 y, .int .i64 z]) := put6_bk HX.out _ _ _ _ _ _
         clear x0 x1 x2 x3 x4 x5 f0 f1 f2 f3 f4 f5
         generalize (((((w2.setCell ⟨w1.heap.size, 0, none⟩ (.int .i64 T)).setCell ⟨w1.heap.size, 1, none⟩ (.int .i64 1)).setCell ⟨w1.heap.size, 2, none⟩ (.int .i64 i)).setCell ⟨w1.heap.size, 3, none⟩ (.int .u32 g)).setCell ⟨w1.heap.size, 4, none⟩ (.int .i64 y)).setCell ⟨w1.heap.size, 5, none⟩ (.int .i64 z) = w3 at *
         obtain ⟨G, hG⟩ : ∃ G, w1.heap.size = G := ⟨_, rfl⟩
         rw [hG] at NF ⊢
         have GLT : Hid (w1.heap.size ≤ G) := by rw [hG]; exact Nat.le_refl _
         clear hG)
    clear CB o0 o1 o2 h5
    have H3 := Lib.hid (H.out.below BF.out).1
    have M3 := Lib.hid (N0.out.below BF.out)
    have E3 := Lib.hid (HE.out.below BF.out)
    obtain ⟨x0, x1, x2, x3, x4, x5⟩ := cells6 NF.out
    have CK : Hid (Calls Tryz.prog 48 #[.agg #[.int .i64 T, .int .i64 1, .int .i64 i, .int .u32 g, .int .i64 y, .int .i64 z]] w3 fun e w' => e = .returned (.int .i64 (LG.chkE ⟨T, 1, i, g, y, z⟩)) ∧ Below w3.heap.size w3 w') := LG.chk_att ⟨T, 1, i, g, y, z⟩ (by have := att_rg HH.out.ok HR.out HY.out; rwa [AT.out] at this) w3 E3.out
    have ee := attE (k := 1) (i := i) (y := y) HH.out.ok HR.out.g1
    rw [if_pos HP.out, AT.out] at ee
    rw [ee] at CK
    clear ee
    go_wp2_with fail
    refine CK.out.mono ?_
    rintro e w4 ⟨rfl, hb4⟩
    have B4 := Lib.hid (bel2 BF.out hb4)
    have H4 := Lib.hid (H3.out.below hb4).1
    have E4 := Lib.hid (E3.out.below hb4)
    have M4 := Lib.hid (M3.out.below hb4)
    have N4 := Lib.hid (NF.out.below hb4)
    clear hb4 x0 x1 x2 x3 x4 x5 CK
    obtain ⟨o0, o1, o2⟩ := LS.cells3 M4.out
    go_wp2_with fail
    refine (whas_ok A W 1 i g true w4 H4.out ⟨fun _ => HX2.out, fun _ => rfl⟩).mono ?_
    rintro e w5 ⟨rfl, hb5⟩
    have B5 := Lib.hid (bel2 B4.out hb5)
    have H5 := Lib.hid (H4.out.below hb5).1
    have E5 := Lib.hid (E4.out.below hb5)
    have M5 := Lib.hid (M4.out.below hb5)
    have N5 := Lib.hid (N4.out.below hb5)
    clear hb5 o0 o1 o2
    go_wp2_with fail
    have D5 := Lib.hid (bel_drew (Below.refl w5.heap.size w5))
    have H6 := Lib.hid (H5.out.below D5.out).1
    have M6 := Lib.hid (M5.out.below D5.out)
    have N6 := Lib.hid (N5.out.below D5.out)
    have B6 := Lib.hid (HB0.out.trans ((bel2 B5.out D5.out).mono HB0.out.size))
    have p4 := H6.out.p4
    unfold ptr at p4
    obtain ⟨x0, x1, x2, x3, x4, x5⟩ := cells6 N6.out
    have GL : Hid (¬ WFoot w5.drew A G) := fun x => by
      have q1 := HH.out.foot_lt (((HH.out.below B6.out).2 _).1 x)
      have q2 := GLT.out
      have q3 := LT.out
      omega
    have BL : Hid (¬ WFoot w5.drew A w.heap.size) := fun x => by
      have q1 := HH.out.foot_lt (((HH.out.below B6.out).2 _).1 x)
      omega
    have AD : Hid (Calls Tryz.prog 70 #[.pointer (some ⟨A.l, 0, none⟩), .agg #[.int .i64 T, .int .i64 1, .int .i64 i, .int .u32 g, .int .i64 y, .int .i64 z]] w5.drew fun e w' => e = .returned (.int .i64 0) ∧ (WW w' A { W with B := LG.addL W.B (W.att 1 i g y) } ∧ WStep A w w') ∧ (w'.cell? ⟨A.p, 4, none⟩ = some (.pointer (some ⟨A.l, 0, none⟩)) ∧ w'.cell? ⟨G, 0, none⟩ = some (.int .i64 T) ∧ w'.cell? ⟨G, 1, none⟩ = some (.int .i64 1) ∧ w'.cell? ⟨G, 2, none⟩ = some (.int .i64 i) ∧ w'.cell? ⟨G, 3, none⟩ = some (.int .u32 g) ∧ w'.cell? ⟨G, 4, none⟩ = some (.int .i64 y) ∧ w'.cell? ⟨G, 5, none⟩ = some (.int .i64 z)) ∧ Bk w' G 70 #[.int .i64 T, .int .i64 1, .int .i64 i, .int .u32 g, .int .i64 y, .int .i64 z] ∧ Bk w' w.heap.size 25 #[.int .i64 1, .int .i64 i, .int .u32 g] ∧ ¬ WFoot w' A G ∧ ¬ WFoot w' A w.heap.size) := by
      have hrg := att_rg (k := 1) (i := i) (g := g) HH.out.ok HR.out HY.out
      have hadd := LG.add_ok A.l A.lb A.lo W.B (W.att 1 i g y) w5.drew H6.out.hL hrg (E5.out.below D5.out)
      rw [AT.out] at hadd ⊢
      refine hadd.mono ?_
      rintro e w' ⟨rfl, q1, q2, q3⟩
      have hok : Wd.Ok { W with B := LG.addL W.B ⟨T, 1, i, g, y, z⟩ } := by
        have := HOK.out
        rwa [AT.out] at this
      obtain ⟨y1, y2⟩ := H6.out.stepL q2 q1 q3 hok
      have g6 := N6.out.kept y2.k GL.out
      have m6 := M6.out.kept y2.k BL.out
      refine ⟨by have := HAE.out; rw [AT.out] at this; rw [this], ⟨y1, (HH.out.quiet B6.out).trans y2⟩, ⟨y1.p4, cells6 g6⟩, g6, m6, fun x => by rcases y2.g _ x with u | u; exact GL.out u; have := N6.out.lt; omega, fun x => by rcases y2.g _ x with u | u; exact BL.out u; have := M6.out.lt; omega⟩
    go_region_held3 (fun W => W.cell? ⟨A.p, 4, none⟩ = some (.pointer (some ⟨A.l, 0, none⟩)) ∧ W.cell? ⟨G, 0, none⟩ = some (.int .i64 T) ∧ W.cell? ⟨G, 1, none⟩ = some (.int .i64 1) ∧ W.cell? ⟨G, 2, none⟩ = some (.int .i64 i) ∧ W.cell? ⟨G, 3, none⟩ = some (.int .u32 g) ∧ W.cell? ⟨G, 4, none⟩ = some (.int .i64 y) ∧ W.cell? ⟨G, 5, none⟩ = some (.int .i64 z)) (first | (with_reducible exact CC) | exact ⟨p4, x0, x1, x2, x3, x4, x5⟩) (first
      | (go_at_call 70; refine AD.out.mono ?_; rintro e w7 ⟨rfl, hst, CC, hg7, hm7, hu7, hv7⟩; have U7 := Lib.hid hu7; have V7 := Lib.hid hv7; have ST := Lib.hid hst; have G7 := Lib.hid hg7; have M7 := Lib.hid hm7; clear hst hg7 hm7 hu7 hv7))
    all_goals
      rw [HAL.out] at ST
      have NX : Hid (Calls Tryz.prog 64 #[.pointer (some ⟨A.s, 0, none⟩)] w7 fun e w' => e = .returned (.int .i64 (W.L.headD 1)) ∧ (WW w' A (W.tried 1 i g y) ∧ WStep A w w') ∧ Bk w' G 70 #[.int .i64 T, .int .i64 1, .int .i64 i, .int .u32 g, .int .i64 y, .int .i64 z] ∧ Bk w' w.heap.size 25 #[.int .i64 1, .int .i64 i, .int .u32 g] ∧ ¬ WFoot w' A w.heap.size ∧ ¬ WFoot w' A G) := by
        obtain ⟨s1, s2⟩ := ST.out
        refine (AN.next_at A.s W.L w7 s1.hS).mono ?_
        rintro e w' ⟨rfl, q1, q2, q3⟩
        obtain ⟨y1, y2⟩ := s1.stepS q2 q1 (fun P _ hP => q3.out P hP) HTR.out
        exact ⟨rfl, ⟨y1, s2.trans y2⟩, G7.out.kept y2.k U7.out, M7.out.kept y2.k V7.out, fun x => by rcases y2.g _ x with u | u; exact V7.out u; have := M7.out.lt; omega, fun x => by rcases y2.g _ x with u | u; exact U7.out u; have := G7.out.lt; omega⟩
      have hs3 := ST.out.1.p3
      have hb0 := ST.out.1.c0
      unfold ptr at hs3 hb0
      clear x0 x1 x2 x3 x4 x5 p4 CC
      go_wp2_with fail
      have hL : W.L.headD 1 = z := HZZ.out
      rw [hL] at NX
      clear hL
      refine NX.out.mono ?_
      rintro e w8 ⟨rfl, hst, hg8, hm8, hv8, hu8⟩
      have U8 := Lib.hid hu8
      have ST8 := Lib.hid hst
      have M8 := Lib.hid hm8
      have G8 := Lib.hid hg8
      have V8 := Lib.hid hv8
      obtain ⟨x0, x1, x2, x3, x4, x5⟩ := cells6 hg8
      obtain ⟨o0, o1, o2⟩ := LS.cells3 hm8
      clear hst hg8 hm8 hv8 hu8 hs3 hb0 x0 x1 x2 x3 x4
      obtain rfl : 1 = z := by rw [← HZZ.out]; exact HZ1.out.symm
      have TB := Lib.hid (wtable_ok A.p A 1 (vF A.f) w8 rfl ST8.out.1.p0 ST8.out.1.p1 ST8.out.1.p2 rfl)
      go_wp2_with fail
      refine TB.out.mono ?_
      rintro e w' ⟨rfl, rfl⟩
      unfold vF
      go_wp2_with fail
      refine (give_files A.f _).mono ?_
      rintro e w9 ⟨rfl, hb9⟩
      have B9 := Lib.hid hb9
      clear x5 o0 o1 o2
      obtain ⟨x0, x1, x2, x3, x4, x5⟩ := cells6 (G8.out.below hb9)
      obtain ⟨o0, o1, o2⟩ := LS.cells3 (M8.out.below hb9)
      clear hb9 x0 x1 x2 x3 x4
      have FIN : Hid (Calls Tryz.prog 186 #[.pointer (some ⟨A.f, 0, none⟩), .agg #[.int .i64 1, .int .i64 i, .int .u32 g]] w9 fun e w' => ∃ E, e = .returned (.int .i64 E) ∧ (WW w' A ((W.tried 1 i g y).back 1 i g) ∧ WStep A w w') ∧ Bk w' G 70 #[.int .i64 T, .int .i64 1, .int .i64 i, .int .u32 g, .int .i64 y, .int .i64 1]) := by
        obtain ⟨s1, s2⟩ := ST8.out
        have s3 := (s1.below B9.out).1
        refine (FD.fclose_ok A.f A.fk A.fm W.F 1 i g HR.out _ s3.hF).mono ?_
        rintro e w' ⟨rfl, q1, q2⟩
        obtain ⟨y1, y2⟩ := s3.stepF q2 q1 (by have := s1.ok.back 1 i g; rwa [Wd.back_file] at this)
        rw [Wd.back_file]
        exact ⟨_, rfl, ⟨y1, (s2.trans (s1.quiet B9.out)).trans y2⟩, (G8.out.below B9.out).kept q2 fun hg => U8.out (((s1.below B9.out).2 G).1 (.inr (.inl hg)))⟩
      go_wp2_with fail
      refine FIN.out.mono ?_
      rintro e wA ⟨E, rfl, hst, hg⟩
      have STA := Lib.hid hst
      obtain ⟨x0, x1, x2, x3, x4, x5⟩ := cells6 hg
      clear hst hg x0 x1 x2 x3 x4 o0 o1 o2
      go_wp2
      refine bodyPost_ret (v := .tuple #[.int .i64 1, .int .i64 0]) (by simp [results, Tryz.results18, go_sem]) rfl ⟨rfl, STA.out⟩
set_option maxRecDepth 100000 in
set_option maxHeartbeats 1000000 in
theorem rel_buffer (A : Ad) (W : Wd) (k i g y : Int) (w : World) (h : WW w A W) (he : LG.EnvL w) (hr : RgO k i g) (hy : I64 y) (hp : Poss k i g) (hw : 1 ≤ y ∧ y ≤ 3) (hh : W.Here k i g) (hl : W.B.length < 10000) (hz1 : W.h = 1) (hk : k = 2) :
    Calls Tryz.prog 18 #[ptr A.b, .agg #[.int .i64 k, .int .i64 i, .int .u32 g], .int .i64 y] w fun e w' => e = .returned (.tuple #[.int .i64 1, .int .i64 0]) ∧ WW w' A ((W.tried k i g y).back k i g) ∧ WStep A w w' := by
  have HP := Lib.hid (And.intro hp hw)
  have HX2 : Hid (W.Here k i g) := hh
  have HAE : Hid (LG.addE W.B (W.att k i g y) = 0) := (attA h.ok hp hr.g1 hw).trans (if_neg (by omega))
  have HAL : Hid (LG.addL W.B (W.att k i g y) = W.B ++ [W.att k i g y]) := by unfold Hid LG.addL; rw [HAE.out]; rfl
  have hlE : W.lE k i g y = 0 := by unfold Wd.lE; rw [if_neg (not_not_intro ⟨hp, hw⟩), if_neg (not_not_intro hh), if_neg (by omega)]
  have HTR : Hid (W.tried k i g y).Ok := h.ok.tried hlE
  have HOK : Hid (Wd.Ok { W with B := LG.addL W.B (W.att k i g y) }) := by
    rw [HAL.out]
    exact ⟨h.ok.F, h.ok.nF, h.ok.P, h.ok.nP, h.ok.D, h.ok.nD, h.ok.L, HTR.out.B, HTR.out.lB, h.ok.T0, h.ok.T1, HTR.out.TB⟩
  have HZ1 := Lib.hid hz1
  clear hp hw hh hl hz1 hlE
  subst hk
  have hmg := mP_giving A.q
  have B0 := bel_new w (.cells #[.int .i64 2, .int .i64 i, .int .u32 g] 25)
  have HB0 := Lib.hid B0
  have n0 := Bk.new w 25 #[.int .i64 2, .int .i64 i, .int .u32 g]
  have HH := Lib.hid h
  have H := Lib.hid (h.below B0).1
  have N0 := Lib.hid n0
  have HE := Lib.hid (he.below B0)
  have hc := H.out.c0
  clear h B0 n0 he
  generalize hw1 : w.alloc (.cells #[.int .i64 2, .int .i64 i, .int .u32 g] 25) = w1 at *
  have HR := Lib.hid hr
  have HY := Lib.hid hy
  clear hr hy
  unfold ptr at *
  have D1 := Lib.hid (bel_drew (Below.refl w1.heap.size w1))
  have LT := Lib.hid (show w.heap.size < w1.heap.size from N0.out.lt)
  obtain ⟨o0, o1, o2⟩ := LS.cells3 (N0.out.below D1.out)
  have h5 := (H.out.below D1.out).1.p5
  have CM : Hid (∀ W' : World, Below w1.heap.size w1 W' → Calls Tryz.prog 69 #[.pointer (some ⟨A.p, 0, none⟩)] W' fun e w' => e = .returned (.int .i64 W.h) ∧ Below W'.heap.size W' w') := fun W' hB => coming_ok A W W' (H.out.below hB).1
  have SC : Hid (∀ W' : World, Below w1.heap.size w1 W' → W'.cell? ⟨A.p, 5, none⟩ = some (.int .i64 W.T) ∧ W'.cell? ⟨w.heap.size, 0, none⟩ = some (.int .i64 2) ∧ W'.cell? ⟨w.heap.size, 1, none⟩ = some (.int .i64 i) ∧ W'.cell? ⟨w.heap.size, 2, none⟩ = some (.int .u32 g)) := fun W' hB => ⟨(H.out.below hB).1.p5, LS.cells3 (N0.out.below hB)⟩
  have DA : Hid (∀ o, Below w1.heap.size w1 (w1.alloc o).drew) := fun o => bel_drew (bel_new w1 _)
  have PB : Hid (∀ (W' : World) (a0 a1 a2 a3 a4 a5 : Value), Below w1.heap.size w1 W' → Below w1.heap.size w1 (put6 W' w1.heap.size a0 a1 a2 a3 a4 a5)) := fun W' a0 a1 a2 a3 a4 a5 hB => hB.trans ((put6_kept W' w1.heap.size a0 a1 a2 a3 a4 a5).below hB.size fun k e => by subst e; exact Nat.le_refl _)
  obtain ⟨T, hT⟩ : ∃ T, W.T = T := ⟨_, rfl⟩
  obtain ⟨z, hz⟩ : ∃ z, W.h = z := ⟨_, rfl⟩
  rw [hT] at h5 SC
  rw [hz] at CM
  have HTT := Lib.hid hT
  have HZZ := Lib.hid hz
  have hatt : W.att 2 i g y = ⟨T, 2, i, g, y, z⟩ := by unfold Wd.att; rw [hT, hz]
  clear hT hz
  have AT := Lib.hid hatt
  clear hatt
  go_enter Tryz.func18, Tryz.ntmps18
  go_wp2_with (go_at_call 62; refine (wvalid_yes _ _ _ hc).mono ?_; rintro e w' ⟨rfl, rfl⟩)
  clear hc
  go_region_held3 (fun W => W.cell? ⟨A.p, 5, none⟩ = some (.int .i64 T) ∧ W.cell? ⟨w.heap.size, 0, none⟩ = some (.int .i64 2) ∧ W.cell? ⟨w.heap.size, 1, none⟩ = some (.int .i64 i) ∧ W.cell? ⟨w.heap.size, 2, none⟩ = some (.int .u32 g)) (first | (with_reducible exact CB) | (with_reducible exact SC.out _ (DA.out _)) | (with_reducible exact SC.out _ (bel_alloc B2.out _)) | (with_reducible exact SC.out _ (PB.out _ _ _ _ _ _ _ B2.out)) | exact ⟨h5, o0, o1, o2⟩) (first
    | (go_at_call 69; (with_reducible refine (CM.out _ (DA.out (.cells #[.int .i64 0, .int .i64 0, .int .i64 0, .int .u32 0, .int .i64 0, .int .i64 0] 70))).mono ?_); rintro e w2 ⟨rfl, hb2⟩; have B2 := Lib.hid (bel2 (DA.out _) hb2); have CB := SC.out w2 B2.out; have HX := Lib.hid ((show Bk (w1.alloc (.cells #[.int .i64 0, .int .i64 0, .int .i64 0, .int .u32 0, .int .i64 0, .int .i64 0] 70)).drew w1.heap.size 70 #[.int .i64 0, .int .i64 0, .int .i64 0, .int .u32 0, .int .i64 0, .int .i64 0] from Bk.new w1 _ _).below hb2); obtain ⟨x0, x1, x2, x3, x4, x5⟩ := cells6 HX.out; obtain ⟨f0, f1, f2, f3, f4, f5⟩ := fz6 HX.out; clear hb2)
    | (go_at_call 69; (with_reducible refine (CM.out _ D1.out).mono ?_); rintro e w2 ⟨rfl, hb2⟩; have B2 := Lib.hid (bel2 D1.out hb2); have CB := SC.out w2 B2.out; clear hb2))
  all_goals
    first
      | (have BF : Hid (Below w1.heap.size w1 (w2.alloc (.cells #[.int .i64 T, .int .i64 2, .int .i64 i, .int .u32 g, .int .i64 y, .int .i64 z] 70))) := bel_alloc B2.out _
         have NF : Hid (Bk (w2.alloc (.cells #[.int .i64 T, .int .i64 2, .int .i64 i, .int .u32 g, .int .i64 y, .int .i64 z] 70)) w2.heap.size 70 #[.int .i64 T, .int .i64 2, .int .i64 i, .int .u32 g, .int .i64 y, .int .i64 z]) := Bk.new w2 _ _
         obtain ⟨G, hG⟩ : ∃ G, w2.heap.size = G := ⟨_, rfl⟩
         rw [hG] at NF ⊢
         generalize w2.alloc (.cells #[.int .i64 T, .int .i64 2, .int .i64 i, .int .u32 g, .int .i64 y, .int .i64 z] 70) = w3 at *
         have GLT : Hid (w1.heap.size ≤ G) := by rw [← hG]; exact B2.out.size
         clear hG)
      | (have BF : Hid (Below w1.heap.size w1 ((((((w2.setCell ⟨w1.heap.size, 0, none⟩ (.int .i64 T)).setCell ⟨w1.heap.size, 1, none⟩ (.int .i64 2)).setCell ⟨w1.heap.size, 2, none⟩ (.int .i64 i)).setCell ⟨w1.heap.size, 3, none⟩ (.int .u32 g)).setCell ⟨w1.heap.size, 4, none⟩ (.int .i64 y)).setCell ⟨w1.heap.size, 5, none⟩ (.int .i64 z))) := PB.out w2 _ _ _ _ _ _ B2.out
         have NF : Hid (Bk ((((((w2.setCell ⟨w1.heap.size, 0, none⟩ (.int .i64 T)).setCell ⟨w1.heap.size, 1, none⟩ (.int .i64 2)).setCell ⟨w1.heap.size, 2, none⟩ (.int .i64 i)).setCell ⟨w1.heap.size, 3, none⟩ (.int .u32 g)).setCell ⟨w1.heap.size, 4, none⟩ (.int .i64 y)).setCell ⟨w1.heap.size, 5, none⟩ (.int .i64 z)) w1.heap.size 70 #[.int .i64 T, .int .i64 2, .int .i64 i, .int .u32 g, .int .i64 y, .int .i64 z]) := put6_bk HX.out _ _ _ _ _ _
         clear x0 x1 x2 x3 x4 x5 f0 f1 f2 f3 f4 f5
         generalize (((((w2.setCell ⟨w1.heap.size, 0, none⟩ (.int .i64 T)).setCell ⟨w1.heap.size, 1, none⟩ (.int .i64 2)).setCell ⟨w1.heap.size, 2, none⟩ (.int .i64 i)).setCell ⟨w1.heap.size, 3, none⟩ (.int .u32 g)).setCell ⟨w1.heap.size, 4, none⟩ (.int .i64 y)).setCell ⟨w1.heap.size, 5, none⟩ (.int .i64 z) = w3 at *
         obtain ⟨G, hG⟩ : ∃ G, w1.heap.size = G := ⟨_, rfl⟩
         rw [hG] at NF ⊢
         have GLT : Hid (w1.heap.size ≤ G) := by rw [hG]; exact Nat.le_refl _
         clear hG)
    clear CB o0 o1 o2 h5
    have H3 := Lib.hid (H.out.below BF.out).1
    have M3 := Lib.hid (N0.out.below BF.out)
    have E3 := Lib.hid (HE.out.below BF.out)
    obtain ⟨x0, x1, x2, x3, x4, x5⟩ := cells6 NF.out
    have CK : Hid (Calls Tryz.prog 48 #[.agg #[.int .i64 T, .int .i64 2, .int .i64 i, .int .u32 g, .int .i64 y, .int .i64 z]] w3 fun e w' => e = .returned (.int .i64 (LG.chkE ⟨T, 2, i, g, y, z⟩)) ∧ Below w3.heap.size w3 w') := LG.chk_att ⟨T, 2, i, g, y, z⟩ (by have := att_rg HH.out.ok HR.out HY.out; rwa [AT.out] at this) w3 E3.out
    have ee := attE (k := 2) (i := i) (y := y) HH.out.ok HR.out.g1
    rw [if_pos HP.out, AT.out] at ee
    rw [ee] at CK
    clear ee
    go_wp2_with fail
    refine CK.out.mono ?_
    rintro e w4 ⟨rfl, hb4⟩
    have B4 := Lib.hid (bel2 BF.out hb4)
    have H4 := Lib.hid (H3.out.below hb4).1
    have E4 := Lib.hid (E3.out.below hb4)
    have M4 := Lib.hid (M3.out.below hb4)
    have N4 := Lib.hid (NF.out.below hb4)
    clear hb4 x0 x1 x2 x3 x4 x5 CK
    obtain ⟨o0, o1, o2⟩ := LS.cells3 M4.out
    go_wp2_with fail
    refine (whas_ok A W 2 i g true w4 H4.out ⟨fun _ => HX2.out, fun _ => rfl⟩).mono ?_
    rintro e w5 ⟨rfl, hb5⟩
    have B5 := Lib.hid (bel2 B4.out hb5)
    have H5 := Lib.hid (H4.out.below hb5).1
    have E5 := Lib.hid (E4.out.below hb5)
    have M5 := Lib.hid (M4.out.below hb5)
    have N5 := Lib.hid (N4.out.below hb5)
    clear hb5 o0 o1 o2
    go_wp2_with fail
    have D5 := Lib.hid (bel_drew (Below.refl w5.heap.size w5))
    have H6 := Lib.hid (H5.out.below D5.out).1
    have M6 := Lib.hid (M5.out.below D5.out)
    have N6 := Lib.hid (N5.out.below D5.out)
    have B6 := Lib.hid (HB0.out.trans ((bel2 B5.out D5.out).mono HB0.out.size))
    have p4 := H6.out.p4
    unfold ptr at p4
    obtain ⟨x0, x1, x2, x3, x4, x5⟩ := cells6 N6.out
    have GL : Hid (¬ WFoot w5.drew A G) := fun x => by
      have q1 := HH.out.foot_lt (((HH.out.below B6.out).2 _).1 x)
      have q2 := GLT.out
      have q3 := LT.out
      omega
    have BL : Hid (¬ WFoot w5.drew A w.heap.size) := fun x => by
      have q1 := HH.out.foot_lt (((HH.out.below B6.out).2 _).1 x)
      omega
    have AD : Hid (Calls Tryz.prog 70 #[.pointer (some ⟨A.l, 0, none⟩), .agg #[.int .i64 T, .int .i64 2, .int .i64 i, .int .u32 g, .int .i64 y, .int .i64 z]] w5.drew fun e w' => e = .returned (.int .i64 0) ∧ (WW w' A { W with B := LG.addL W.B (W.att 2 i g y) } ∧ WStep A w w') ∧ (w'.cell? ⟨A.p, 4, none⟩ = some (.pointer (some ⟨A.l, 0, none⟩)) ∧ w'.cell? ⟨G, 0, none⟩ = some (.int .i64 T) ∧ w'.cell? ⟨G, 1, none⟩ = some (.int .i64 2) ∧ w'.cell? ⟨G, 2, none⟩ = some (.int .i64 i) ∧ w'.cell? ⟨G, 3, none⟩ = some (.int .u32 g) ∧ w'.cell? ⟨G, 4, none⟩ = some (.int .i64 y) ∧ w'.cell? ⟨G, 5, none⟩ = some (.int .i64 z)) ∧ Bk w' G 70 #[.int .i64 T, .int .i64 2, .int .i64 i, .int .u32 g, .int .i64 y, .int .i64 z] ∧ Bk w' w.heap.size 25 #[.int .i64 2, .int .i64 i, .int .u32 g] ∧ ¬ WFoot w' A G ∧ ¬ WFoot w' A w.heap.size) := by
      have hrg := att_rg (k := 2) (i := i) (g := g) HH.out.ok HR.out HY.out
      have hadd := LG.add_ok A.l A.lb A.lo W.B (W.att 2 i g y) w5.drew H6.out.hL hrg (E5.out.below D5.out)
      rw [AT.out] at hadd ⊢
      refine hadd.mono ?_
      rintro e w' ⟨rfl, q1, q2, q3⟩
      have hok : Wd.Ok { W with B := LG.addL W.B ⟨T, 2, i, g, y, z⟩ } := by
        have := HOK.out
        rwa [AT.out] at this
      obtain ⟨y1, y2⟩ := H6.out.stepL q2 q1 q3 hok
      have g6 := N6.out.kept y2.k GL.out
      have m6 := M6.out.kept y2.k BL.out
      refine ⟨by have := HAE.out; rw [AT.out] at this; rw [this], ⟨y1, (HH.out.quiet B6.out).trans y2⟩, ⟨y1.p4, cells6 g6⟩, g6, m6, fun x => by rcases y2.g _ x with u | u; exact GL.out u; have := N6.out.lt; omega, fun x => by rcases y2.g _ x with u | u; exact BL.out u; have := M6.out.lt; omega⟩
    go_region_held3 (fun W => W.cell? ⟨A.p, 4, none⟩ = some (.pointer (some ⟨A.l, 0, none⟩)) ∧ W.cell? ⟨G, 0, none⟩ = some (.int .i64 T) ∧ W.cell? ⟨G, 1, none⟩ = some (.int .i64 2) ∧ W.cell? ⟨G, 2, none⟩ = some (.int .i64 i) ∧ W.cell? ⟨G, 3, none⟩ = some (.int .u32 g) ∧ W.cell? ⟨G, 4, none⟩ = some (.int .i64 y) ∧ W.cell? ⟨G, 5, none⟩ = some (.int .i64 z)) (first | (with_reducible exact CC) | exact ⟨p4, x0, x1, x2, x3, x4, x5⟩) (first
      | (go_at_call 70; refine AD.out.mono ?_; rintro e w7 ⟨rfl, hst, CC, hg7, hm7, hu7, hv7⟩; have U7 := Lib.hid hu7; have V7 := Lib.hid hv7; have ST := Lib.hid hst; have G7 := Lib.hid hg7; have M7 := Lib.hid hm7; clear hst hg7 hm7 hu7 hv7))
    all_goals
      rw [HAL.out] at ST
      have NX : Hid (Calls Tryz.prog 64 #[.pointer (some ⟨A.s, 0, none⟩)] w7 fun e w' => e = .returned (.int .i64 (W.L.headD 1)) ∧ (WW w' A (W.tried 2 i g y) ∧ WStep A w w') ∧ Bk w' G 70 #[.int .i64 T, .int .i64 2, .int .i64 i, .int .u32 g, .int .i64 y, .int .i64 z] ∧ Bk w' w.heap.size 25 #[.int .i64 2, .int .i64 i, .int .u32 g] ∧ ¬ WFoot w' A w.heap.size ∧ ¬ WFoot w' A G) := by
        obtain ⟨s1, s2⟩ := ST.out
        refine (AN.next_at A.s W.L w7 s1.hS).mono ?_
        rintro e w' ⟨rfl, q1, q2, q3⟩
        obtain ⟨y1, y2⟩ := s1.stepS q2 q1 (fun P _ hP => q3.out P hP) HTR.out
        exact ⟨rfl, ⟨y1, s2.trans y2⟩, G7.out.kept y2.k U7.out, M7.out.kept y2.k V7.out, fun x => by rcases y2.g _ x with u | u; exact V7.out u; have := M7.out.lt; omega, fun x => by rcases y2.g _ x with u | u; exact U7.out u; have := G7.out.lt; omega⟩
      have hs3 := ST.out.1.p3
      have hb0 := ST.out.1.c0
      unfold ptr at hs3 hb0
      clear x0 x1 x2 x3 x4 x5 p4 CC
      go_wp2_with fail
      have hL : W.L.headD 1 = z := HZZ.out
      rw [hL] at NX
      clear hL
      refine NX.out.mono ?_
      rintro e w8 ⟨rfl, hst, hg8, hm8, hv8, hu8⟩
      have U8 := Lib.hid hu8
      have ST8 := Lib.hid hst
      have M8 := Lib.hid hm8
      have G8 := Lib.hid hg8
      have V8 := Lib.hid hv8
      obtain ⟨x0, x1, x2, x3, x4, x5⟩ := cells6 hg8
      obtain ⟨o0, o1, o2⟩ := LS.cells3 hm8
      clear hst hg8 hm8 hv8 hu8 hs3 hb0 x0 x1 x2 x3 x4
      obtain rfl : 1 = z := by rw [← HZZ.out]; exact HZ1.out.symm
      have TB := Lib.hid (wtable_ok A.p A 2 (vP A.q) w8 rfl ST8.out.1.p0 ST8.out.1.p1 ST8.out.1.p2 rfl)
      go_wp2_with fail
      refine TB.out.mono ?_
      rintro e w' ⟨rfl, rfl⟩
      unfold vP
      go_wp2_with fail
      refine (give_buffers A.q _).mono ?_
      rintro e w9 ⟨rfl, hb9⟩
      have B9 := Lib.hid hb9
      clear x5 o0 o1 o2
      obtain ⟨x0, x1, x2, x3, x4, x5⟩ := cells6 (G8.out.below hb9)
      obtain ⟨o0, o1, o2⟩ := LS.cells3 (M8.out.below hb9)
      clear hb9 x0 x1 x2 x3 x4
      have FIN : Hid (Calls Tryz.prog 204 #[.pointer (some ⟨A.q, 0, none⟩), .agg #[.int .i64 2, .int .i64 i, .int .u32 g]] w9 fun e w' => ∃ E, e = .returned (.int .i64 E) ∧ (WW w' A ((W.tried 2 i g y).back 2 i g) ∧ WStep A w w') ∧ Bk w' G 70 #[.int .i64 T, .int .i64 2, .int .i64 i, .int .u32 g, .int .i64 y, .int .i64 1]) := by
        obtain ⟨s1, s2⟩ := ST8.out
        have s3 := (s1.below B9.out).1
        refine (BF_unpin A.q A.qs A.qk W.P 2 i g HR.out _ s3.hP).mono ?_
        rintro e w' ⟨rfl, q1, q2⟩
        obtain ⟨y1, y2⟩ := s3.stepP q2 q1 (by have := s1.ok.back 2 i g; rwa [Wd.back_buffer] at this)
        rw [Wd.back_buffer]
        exact ⟨_, rfl, ⟨y1, (s2.trans (s1.quiet B9.out)).trans y2⟩, (G8.out.below B9.out).kept q2 fun hg => U8.out (((s1.below B9.out).2 G).1 (.inr (.inr (.inl hg))))⟩
      go_wp2_with fail
      refine FIN.out.mono ?_
      rintro e wA ⟨E, rfl, hst, hg⟩
      have STA := Lib.hid hst
      obtain ⟨x0, x1, x2, x3, x4, x5⟩ := cells6 hg
      clear hst hg x0 x1 x2 x3 x4 o0 o1 o2
      go_wp2
      refine bodyPost_ret (v := .tuple #[.int .i64 1, .int .i64 0]) (by simp [results, Tryz.results18, go_sem]) rfl ⟨rfl, STA.out⟩
set_option maxRecDepth 100000 in
set_option maxHeartbeats 1000000 in
theorem rel_lease (A : Ad) (W : Wd) (k i g y : Int) (w : World) (h : WW w A W) (he : LG.EnvL w) (hr : RgO k i g) (hy : I64 y) (hp : Poss k i g) (hw : 1 ≤ y ∧ y ≤ 3) (hh : W.Here k i g) (hl : W.B.length < 10000) (hz1 : W.h = 1) (hk : k = 3) :
    Calls Tryz.prog 18 #[ptr A.b, .agg #[.int .i64 k, .int .i64 i, .int .u32 g], .int .i64 y] w fun e w' => e = .returned (.tuple #[.int .i64 1, .int .i64 0]) ∧ WW w' A ((W.tried k i g y).back k i g) ∧ WStep A w w' := by
  have HP := Lib.hid (And.intro hp hw)
  have HX2 : Hid (W.Here k i g) := hh
  have HAE : Hid (LG.addE W.B (W.att k i g y) = 0) := (attA h.ok hp hr.g1 hw).trans (if_neg (by omega))
  have HAL : Hid (LG.addL W.B (W.att k i g y) = W.B ++ [W.att k i g y]) := by unfold Hid LG.addL; rw [HAE.out]; rfl
  have hlE : W.lE k i g y = 0 := by unfold Wd.lE; rw [if_neg (not_not_intro ⟨hp, hw⟩), if_neg (not_not_intro hh), if_neg (by omega)]
  have HTR : Hid (W.tried k i g y).Ok := h.ok.tried hlE
  have HOK : Hid (Wd.Ok { W with B := LG.addL W.B (W.att k i g y) }) := by
    rw [HAL.out]
    exact ⟨h.ok.F, h.ok.nF, h.ok.P, h.ok.nP, h.ok.D, h.ok.nD, h.ok.L, HTR.out.B, HTR.out.lB, h.ok.T0, h.ok.T1, HTR.out.TB⟩
  have HZ1 := Lib.hid hz1
  clear hp hw hh hl hz1 hlE
  subst hk
  have hmg := mD_giving A.d
  have B0 := bel_new w (.cells #[.int .i64 3, .int .i64 i, .int .u32 g] 25)
  have HB0 := Lib.hid B0
  have n0 := Bk.new w 25 #[.int .i64 3, .int .i64 i, .int .u32 g]
  have HH := Lib.hid h
  have H := Lib.hid (h.below B0).1
  have N0 := Lib.hid n0
  have HE := Lib.hid (he.below B0)
  have hc := H.out.c0
  clear h B0 n0 he
  generalize hw1 : w.alloc (.cells #[.int .i64 3, .int .i64 i, .int .u32 g] 25) = w1 at *
  have HR := Lib.hid hr
  have HY := Lib.hid hy
  clear hr hy
  unfold ptr at *
  have D1 := Lib.hid (bel_drew (Below.refl w1.heap.size w1))
  have LT := Lib.hid (show w.heap.size < w1.heap.size from N0.out.lt)
  obtain ⟨o0, o1, o2⟩ := LS.cells3 (N0.out.below D1.out)
  have h5 := (H.out.below D1.out).1.p5
  have CM : Hid (∀ W' : World, Below w1.heap.size w1 W' → Calls Tryz.prog 69 #[.pointer (some ⟨A.p, 0, none⟩)] W' fun e w' => e = .returned (.int .i64 W.h) ∧ Below W'.heap.size W' w') := fun W' hB => coming_ok A W W' (H.out.below hB).1
  have SC : Hid (∀ W' : World, Below w1.heap.size w1 W' → W'.cell? ⟨A.p, 5, none⟩ = some (.int .i64 W.T) ∧ W'.cell? ⟨w.heap.size, 0, none⟩ = some (.int .i64 3) ∧ W'.cell? ⟨w.heap.size, 1, none⟩ = some (.int .i64 i) ∧ W'.cell? ⟨w.heap.size, 2, none⟩ = some (.int .u32 g)) := fun W' hB => ⟨(H.out.below hB).1.p5, LS.cells3 (N0.out.below hB)⟩
  have DA : Hid (∀ o, Below w1.heap.size w1 (w1.alloc o).drew) := fun o => bel_drew (bel_new w1 _)
  have PB : Hid (∀ (W' : World) (a0 a1 a2 a3 a4 a5 : Value), Below w1.heap.size w1 W' → Below w1.heap.size w1 (put6 W' w1.heap.size a0 a1 a2 a3 a4 a5)) := fun W' a0 a1 a2 a3 a4 a5 hB => hB.trans ((put6_kept W' w1.heap.size a0 a1 a2 a3 a4 a5).below hB.size fun k e => by subst e; exact Nat.le_refl _)
  obtain ⟨T, hT⟩ : ∃ T, W.T = T := ⟨_, rfl⟩
  obtain ⟨z, hz⟩ : ∃ z, W.h = z := ⟨_, rfl⟩
  rw [hT] at h5 SC
  rw [hz] at CM
  have HTT := Lib.hid hT
  have HZZ := Lib.hid hz
  have hatt : W.att 3 i g y = ⟨T, 3, i, g, y, z⟩ := by unfold Wd.att; rw [hT, hz]
  clear hT hz
  have AT := Lib.hid hatt
  clear hatt
  go_enter Tryz.func18, Tryz.ntmps18
  go_wp2_with (go_at_call 62; refine (wvalid_yes _ _ _ hc).mono ?_; rintro e w' ⟨rfl, rfl⟩)
  clear hc
  go_region_held3 (fun W => W.cell? ⟨A.p, 5, none⟩ = some (.int .i64 T) ∧ W.cell? ⟨w.heap.size, 0, none⟩ = some (.int .i64 3) ∧ W.cell? ⟨w.heap.size, 1, none⟩ = some (.int .i64 i) ∧ W.cell? ⟨w.heap.size, 2, none⟩ = some (.int .u32 g)) (first | (with_reducible exact CB) | (with_reducible exact SC.out _ (DA.out _)) | (with_reducible exact SC.out _ (bel_alloc B2.out _)) | (with_reducible exact SC.out _ (PB.out _ _ _ _ _ _ _ B2.out)) | exact ⟨h5, o0, o1, o2⟩) (first
    | (go_at_call 69; (with_reducible refine (CM.out _ (DA.out (.cells #[.int .i64 0, .int .i64 0, .int .i64 0, .int .u32 0, .int .i64 0, .int .i64 0] 70))).mono ?_); rintro e w2 ⟨rfl, hb2⟩; have B2 := Lib.hid (bel2 (DA.out _) hb2); have CB := SC.out w2 B2.out; have HX := Lib.hid ((show Bk (w1.alloc (.cells #[.int .i64 0, .int .i64 0, .int .i64 0, .int .u32 0, .int .i64 0, .int .i64 0] 70)).drew w1.heap.size 70 #[.int .i64 0, .int .i64 0, .int .i64 0, .int .u32 0, .int .i64 0, .int .i64 0] from Bk.new w1 _ _).below hb2); obtain ⟨x0, x1, x2, x3, x4, x5⟩ := cells6 HX.out; obtain ⟨f0, f1, f2, f3, f4, f5⟩ := fz6 HX.out; clear hb2)
    | (go_at_call 69; (with_reducible refine (CM.out _ D1.out).mono ?_); rintro e w2 ⟨rfl, hb2⟩; have B2 := Lib.hid (bel2 D1.out hb2); have CB := SC.out w2 B2.out; clear hb2))
  all_goals
    first
      | (have BF : Hid (Below w1.heap.size w1 (w2.alloc (.cells #[.int .i64 T, .int .i64 3, .int .i64 i, .int .u32 g, .int .i64 y, .int .i64 z] 70))) := bel_alloc B2.out _
         have NF : Hid (Bk (w2.alloc (.cells #[.int .i64 T, .int .i64 3, .int .i64 i, .int .u32 g, .int .i64 y, .int .i64 z] 70)) w2.heap.size 70 #[.int .i64 T, .int .i64 3, .int .i64 i, .int .u32 g, .int .i64 y, .int .i64 z]) := Bk.new w2 _ _
         obtain ⟨G, hG⟩ : ∃ G, w2.heap.size = G := ⟨_, rfl⟩
         rw [hG] at NF ⊢
         generalize w2.alloc (.cells #[.int .i64 T, .int .i64 3, .int .i64 i, .int .u32 g, .int .i64 y, .int .i64 z] 70) = w3 at *
         have GLT : Hid (w1.heap.size ≤ G) := by rw [← hG]; exact B2.out.size
         clear hG)
      | (have BF : Hid (Below w1.heap.size w1 ((((((w2.setCell ⟨w1.heap.size, 0, none⟩ (.int .i64 T)).setCell ⟨w1.heap.size, 1, none⟩ (.int .i64 3)).setCell ⟨w1.heap.size, 2, none⟩ (.int .i64 i)).setCell ⟨w1.heap.size, 3, none⟩ (.int .u32 g)).setCell ⟨w1.heap.size, 4, none⟩ (.int .i64 y)).setCell ⟨w1.heap.size, 5, none⟩ (.int .i64 z))) := PB.out w2 _ _ _ _ _ _ B2.out
         have NF : Hid (Bk ((((((w2.setCell ⟨w1.heap.size, 0, none⟩ (.int .i64 T)).setCell ⟨w1.heap.size, 1, none⟩ (.int .i64 3)).setCell ⟨w1.heap.size, 2, none⟩ (.int .i64 i)).setCell ⟨w1.heap.size, 3, none⟩ (.int .u32 g)).setCell ⟨w1.heap.size, 4, none⟩ (.int .i64 y)).setCell ⟨w1.heap.size, 5, none⟩ (.int .i64 z)) w1.heap.size 70 #[.int .i64 T, .int .i64 3, .int .i64 i, .int .u32 g, .int .i64 y, .int .i64 z]) := put6_bk HX.out _ _ _ _ _ _
         clear x0 x1 x2 x3 x4 x5 f0 f1 f2 f3 f4 f5
         generalize (((((w2.setCell ⟨w1.heap.size, 0, none⟩ (.int .i64 T)).setCell ⟨w1.heap.size, 1, none⟩ (.int .i64 3)).setCell ⟨w1.heap.size, 2, none⟩ (.int .i64 i)).setCell ⟨w1.heap.size, 3, none⟩ (.int .u32 g)).setCell ⟨w1.heap.size, 4, none⟩ (.int .i64 y)).setCell ⟨w1.heap.size, 5, none⟩ (.int .i64 z) = w3 at *
         obtain ⟨G, hG⟩ : ∃ G, w1.heap.size = G := ⟨_, rfl⟩
         rw [hG] at NF ⊢
         have GLT : Hid (w1.heap.size ≤ G) := by rw [hG]; exact Nat.le_refl _
         clear hG)
    clear CB o0 o1 o2 h5
    have H3 := Lib.hid (H.out.below BF.out).1
    have M3 := Lib.hid (N0.out.below BF.out)
    have E3 := Lib.hid (HE.out.below BF.out)
    obtain ⟨x0, x1, x2, x3, x4, x5⟩ := cells6 NF.out
    have CK : Hid (Calls Tryz.prog 48 #[.agg #[.int .i64 T, .int .i64 3, .int .i64 i, .int .u32 g, .int .i64 y, .int .i64 z]] w3 fun e w' => e = .returned (.int .i64 (LG.chkE ⟨T, 3, i, g, y, z⟩)) ∧ Below w3.heap.size w3 w') := LG.chk_att ⟨T, 3, i, g, y, z⟩ (by have := att_rg HH.out.ok HR.out HY.out; rwa [AT.out] at this) w3 E3.out
    have ee := attE (k := 3) (i := i) (y := y) HH.out.ok HR.out.g1
    rw [if_pos HP.out, AT.out] at ee
    rw [ee] at CK
    clear ee
    go_wp2_with fail
    refine CK.out.mono ?_
    rintro e w4 ⟨rfl, hb4⟩
    have B4 := Lib.hid (bel2 BF.out hb4)
    have H4 := Lib.hid (H3.out.below hb4).1
    have E4 := Lib.hid (E3.out.below hb4)
    have M4 := Lib.hid (M3.out.below hb4)
    have N4 := Lib.hid (NF.out.below hb4)
    clear hb4 x0 x1 x2 x3 x4 x5 CK
    obtain ⟨o0, o1, o2⟩ := LS.cells3 M4.out
    go_wp2_with fail
    refine (whas_ok A W 3 i g true w4 H4.out ⟨fun _ => HX2.out, fun _ => rfl⟩).mono ?_
    rintro e w5 ⟨rfl, hb5⟩
    have B5 := Lib.hid (bel2 B4.out hb5)
    have H5 := Lib.hid (H4.out.below hb5).1
    have E5 := Lib.hid (E4.out.below hb5)
    have M5 := Lib.hid (M4.out.below hb5)
    have N5 := Lib.hid (N4.out.below hb5)
    clear hb5 o0 o1 o2
    go_wp2_with fail
    have D5 := Lib.hid (bel_drew (Below.refl w5.heap.size w5))
    have H6 := Lib.hid (H5.out.below D5.out).1
    have M6 := Lib.hid (M5.out.below D5.out)
    have N6 := Lib.hid (N5.out.below D5.out)
    have B6 := Lib.hid (HB0.out.trans ((bel2 B5.out D5.out).mono HB0.out.size))
    have p4 := H6.out.p4
    unfold ptr at p4
    obtain ⟨x0, x1, x2, x3, x4, x5⟩ := cells6 N6.out
    have GL : Hid (¬ WFoot w5.drew A G) := fun x => by
      have q1 := HH.out.foot_lt (((HH.out.below B6.out).2 _).1 x)
      have q2 := GLT.out
      have q3 := LT.out
      omega
    have BL : Hid (¬ WFoot w5.drew A w.heap.size) := fun x => by
      have q1 := HH.out.foot_lt (((HH.out.below B6.out).2 _).1 x)
      omega
    have AD : Hid (Calls Tryz.prog 70 #[.pointer (some ⟨A.l, 0, none⟩), .agg #[.int .i64 T, .int .i64 3, .int .i64 i, .int .u32 g, .int .i64 y, .int .i64 z]] w5.drew fun e w' => e = .returned (.int .i64 0) ∧ (WW w' A { W with B := LG.addL W.B (W.att 3 i g y) } ∧ WStep A w w') ∧ (w'.cell? ⟨A.p, 4, none⟩ = some (.pointer (some ⟨A.l, 0, none⟩)) ∧ w'.cell? ⟨G, 0, none⟩ = some (.int .i64 T) ∧ w'.cell? ⟨G, 1, none⟩ = some (.int .i64 3) ∧ w'.cell? ⟨G, 2, none⟩ = some (.int .i64 i) ∧ w'.cell? ⟨G, 3, none⟩ = some (.int .u32 g) ∧ w'.cell? ⟨G, 4, none⟩ = some (.int .i64 y) ∧ w'.cell? ⟨G, 5, none⟩ = some (.int .i64 z)) ∧ Bk w' G 70 #[.int .i64 T, .int .i64 3, .int .i64 i, .int .u32 g, .int .i64 y, .int .i64 z] ∧ Bk w' w.heap.size 25 #[.int .i64 3, .int .i64 i, .int .u32 g] ∧ ¬ WFoot w' A G ∧ ¬ WFoot w' A w.heap.size) := by
      have hrg := att_rg (k := 3) (i := i) (g := g) HH.out.ok HR.out HY.out
      have hadd := LG.add_ok A.l A.lb A.lo W.B (W.att 3 i g y) w5.drew H6.out.hL hrg (E5.out.below D5.out)
      rw [AT.out] at hadd ⊢
      refine hadd.mono ?_
      rintro e w' ⟨rfl, q1, q2, q3⟩
      have hok : Wd.Ok { W with B := LG.addL W.B ⟨T, 3, i, g, y, z⟩ } := by
        have := HOK.out
        rwa [AT.out] at this
      obtain ⟨y1, y2⟩ := H6.out.stepL q2 q1 q3 hok
      have g6 := N6.out.kept y2.k GL.out
      have m6 := M6.out.kept y2.k BL.out
      refine ⟨by have := HAE.out; rw [AT.out] at this; rw [this], ⟨y1, (HH.out.quiet B6.out).trans y2⟩, ⟨y1.p4, cells6 g6⟩, g6, m6, fun x => by rcases y2.g _ x with u | u; exact GL.out u; have := N6.out.lt; omega, fun x => by rcases y2.g _ x with u | u; exact BL.out u; have := M6.out.lt; omega⟩
    go_region_held3 (fun W => W.cell? ⟨A.p, 4, none⟩ = some (.pointer (some ⟨A.l, 0, none⟩)) ∧ W.cell? ⟨G, 0, none⟩ = some (.int .i64 T) ∧ W.cell? ⟨G, 1, none⟩ = some (.int .i64 3) ∧ W.cell? ⟨G, 2, none⟩ = some (.int .i64 i) ∧ W.cell? ⟨G, 3, none⟩ = some (.int .u32 g) ∧ W.cell? ⟨G, 4, none⟩ = some (.int .i64 y) ∧ W.cell? ⟨G, 5, none⟩ = some (.int .i64 z)) (first | (with_reducible exact CC) | exact ⟨p4, x0, x1, x2, x3, x4, x5⟩) (first
      | (go_at_call 70; refine AD.out.mono ?_; rintro e w7 ⟨rfl, hst, CC, hg7, hm7, hu7, hv7⟩; have U7 := Lib.hid hu7; have V7 := Lib.hid hv7; have ST := Lib.hid hst; have G7 := Lib.hid hg7; have M7 := Lib.hid hm7; clear hst hg7 hm7 hu7 hv7))
    all_goals
      rw [HAL.out] at ST
      have NX : Hid (Calls Tryz.prog 64 #[.pointer (some ⟨A.s, 0, none⟩)] w7 fun e w' => e = .returned (.int .i64 (W.L.headD 1)) ∧ (WW w' A (W.tried 3 i g y) ∧ WStep A w w') ∧ Bk w' G 70 #[.int .i64 T, .int .i64 3, .int .i64 i, .int .u32 g, .int .i64 y, .int .i64 z] ∧ Bk w' w.heap.size 25 #[.int .i64 3, .int .i64 i, .int .u32 g] ∧ ¬ WFoot w' A w.heap.size ∧ ¬ WFoot w' A G) := by
        obtain ⟨s1, s2⟩ := ST.out
        refine (AN.next_at A.s W.L w7 s1.hS).mono ?_
        rintro e w' ⟨rfl, q1, q2, q3⟩
        obtain ⟨y1, y2⟩ := s1.stepS q2 q1 (fun P _ hP => q3.out P hP) HTR.out
        exact ⟨rfl, ⟨y1, s2.trans y2⟩, G7.out.kept y2.k U7.out, M7.out.kept y2.k V7.out, fun x => by rcases y2.g _ x with u | u; exact V7.out u; have := M7.out.lt; omega, fun x => by rcases y2.g _ x with u | u; exact U7.out u; have := G7.out.lt; omega⟩
      have hs3 := ST.out.1.p3
      have hb0 := ST.out.1.c0
      unfold ptr at hs3 hb0
      clear x0 x1 x2 x3 x4 x5 p4 CC
      go_wp2_with fail
      have hL : W.L.headD 1 = z := HZZ.out
      rw [hL] at NX
      clear hL
      refine NX.out.mono ?_
      rintro e w8 ⟨rfl, hst, hg8, hm8, hv8, hu8⟩
      have U8 := Lib.hid hu8
      have ST8 := Lib.hid hst
      have M8 := Lib.hid hm8
      have G8 := Lib.hid hg8
      have V8 := Lib.hid hv8
      obtain ⟨x0, x1, x2, x3, x4, x5⟩ := cells6 hg8
      obtain ⟨o0, o1, o2⟩ := LS.cells3 hm8
      clear hst hg8 hm8 hv8 hu8 hs3 hb0 x0 x1 x2 x3 x4
      obtain rfl : 1 = z := by rw [← HZZ.out]; exact HZ1.out.symm
      have TB := Lib.hid (wtable_ok A.p A 3 (vD A.d) w8 rfl ST8.out.1.p0 ST8.out.1.p1 ST8.out.1.p2 rfl)
      go_wp2_with fail
      refine TB.out.mono ?_
      rintro e w' ⟨rfl, rfl⟩
      unfold vD
      go_wp2_with fail
      refine (give_desk A.d _).mono ?_
      rintro e w9 ⟨rfl, hb9⟩
      have B9 := Lib.hid hb9
      clear x5 o0 o1 o2
      obtain ⟨x0, x1, x2, x3, x4, x5⟩ := cells6 (G8.out.below hb9)
      obtain ⟨o0, o1, o2⟩ := LS.cells3 (M8.out.below hb9)
      clear hb9 x0 x1 x2 x3 x4
      have FIN : Hid (Calls Tryz.prog 212 #[.pointer (some ⟨A.d, 0, none⟩), .agg #[.int .i64 3, .int .i64 i, .int .u32 g]] w9 fun e w' => ∃ E, e = .returned (.int .i64 E) ∧ (WW w' A ((W.tried 3 i g y).back 3 i g) ∧ WStep A w w') ∧ Bk w' G 70 #[.int .i64 T, .int .i64 3, .int .i64 i, .int .u32 g, .int .i64 y, .int .i64 1]) := by
        obtain ⟨s1, s2⟩ := ST8.out
        have s3 := (s1.below B9.out).1
        refine (LS.dret_ok A.d A.dk A.da W.D 3 i g HR.out _ s3.hD).mono ?_
        rintro e w' ⟨rfl, q1, q2⟩
        obtain ⟨y1, y2⟩ := s3.stepD q2 q1 (by have := s1.ok.back 3 i g; rwa [Wd.back_lease] at this)
        rw [Wd.back_lease]
        exact ⟨_, rfl, ⟨y1, (s2.trans (s1.quiet B9.out)).trans y2⟩, (G8.out.below B9.out).kept q2 fun hg => U8.out (((s1.below B9.out).2 G).1 (.inr (.inr (.inr (.inl hg)))))⟩
      go_wp2_with fail
      refine FIN.out.mono ?_
      rintro e wA ⟨E, rfl, hst, hg⟩
      have STA := Lib.hid hst
      obtain ⟨x0, x1, x2, x3, x4, x5⟩ := cells6 hg
      clear hst hg x0 x1 x2 x3 x4 o0 o1 o2
      go_wp2
      refine bodyPost_ret (v := .tuple #[.int .i64 1, .int .i64 0]) (by simp [results, Tryz.results18, go_sem]) rfl ⟨rfl, STA.out⟩
theorem wrel_no (p : Option Addr) (k i g y : Int) (w : World) (h : WInv w p) :
    Calls Tryz.prog 18 #[.pointer p, .agg #[.int .i64 k, .int .i64 i, .int .u32 g], .int .i64 y] w fun e w' => e = .returned (.tuple #[.int .i64 0, .int .i64 1]) ∧ Below w.heap.size w w' := by
  have H := Lib.hid (h.below (bel_new w (.cells #[.int .i64 k, .int .i64 i, .int .u32 g] 25)))
  clear h
  go_enter Tryz.func18, Tryz.ntmps18
  go_wp2_with (go_at_call 62; refine (wvalid_no _ _ H.out).mono ?_; rintro e w' ⟨rfl, rfl⟩)
  exact bodyPost_ret (v := .tuple #[.int .i64 0, .int .i64 1]) (by simp [results, Tryz.results18, go_sem]) rfl ⟨rfl, bel_new _ _⟩
/-- Release, for any resource. -/
theorem wrel_ok (A : Ad) (W : Wd) (k i g y : Int) (w : World) (h : WW w A W) (he : LG.EnvL w) (hr : RgO k i g) (hy : I64 y) :
    Calls Tryz.prog 18 #[ptr A.b, .agg #[.int .i64 k, .int .i64 i, .int .u32 g], .int .i64 y] w fun e w' => e = .returned (.tuple #[.int .i64 (W.lA k i g y), .int .i64 (W.lE k i g y)]) ∧ WW w' A (W.rel k i g y) ∧ WStep A w w' := by
  by_cases hp : Poss k i g ∧ 1 ≤ y ∧ y ≤ 3
  · by_cases hh : W.Here k i g
    · by_cases hl : 10000 ≤ W.B.length
      · have e1 : W.lE k i g y = 4 := by unfold Wd.lE; rw [if_neg (not_not_intro hp), if_neg (not_not_intro hh), if_pos hl]
        unfold Wd.lA Wd.rel
        rw [e1, if_neg (by omega), if_neg (by omega)]
        exact rel_full A W k i g y w h he hr hy hp.1 hp.2 hh hl
      · have e1 : W.lE k i g y = 0 := by unfold Wd.lE; rw [if_neg (not_not_intro hp), if_neg (not_not_intro hh), if_neg hl]
        unfold Wd.lA Wd.rel
        rw [e1, if_pos rfl, if_pos rfl]
        by_cases hz : W.h = 1
        · rw [if_pos hz, hz]
          have hk := hp.1
          by_cases k1 : k = 1
          · subst k1; exact rel_file A W 1 i g y w h he hr hy hp.1 hp.2 hh (by omega) hz rfl
          by_cases k2 : k = 2
          · subst k2; exact rel_buffer A W 2 i g y w h he hr hy hp.1 hp.2 hh (by omega) hz rfl
          · obtain rfl : k = 3 := by have := hk.1; have := hk.2.1; omega
            exact rel_lease A W 3 i g y w h he hr hy hp.1 hp.2 hh (by omega) hz rfl
        · rw [if_neg hz]
          exact rel_try A W k i g y w h he hr hy hp.1 hp.2 hh (by omega) hz
    · have e1 : W.lE k i g y = 5 := by unfold Wd.lE; rw [if_neg (not_not_intro hp), if_pos hh]
      unfold Wd.lA Wd.rel
      rw [e1, if_neg (by omega), if_neg (by omega)]
      refine (rel_none A W k i g y w h he hr hy hp.1 hp.2 hh).mono ?_
      rintro e w' ⟨rfl, hb⟩
      exact ⟨rfl, (h.below hb).1, h.quiet hb⟩
  · have e1 : W.lE k i g y = 2 := by unfold Wd.lE; rw [if_pos hp]
    unfold Wd.lA Wd.rel
    rw [e1, if_neg (by omega), if_neg (by omega)]
    refine (rel_arg A W k i g y w h he hr hy hp).mono ?_
    rintro e w' ⟨rfl, hb⟩
    exact ⟨rfl, (h.below hb).1, h.quiet hb⟩
end Go.Proofs.YtpinmiplefidpaaGreatDoor
