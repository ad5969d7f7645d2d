/- The contract of Release. -/
import Derived.Test.YtpinmiplefidpaaGreatDoorOj
import Derived.Test.YtpinmiplefidpaaGreatDoorOb
namespace Go.Proofs.YtpinmiplefidpaaGreatDoor
open Go.RowKit

theorem attE {W : Wd} (h : W.Ok) {k i g y : Int} (hg : g ≤ 4294967295) : LG.chkE (W.att k i g y) = if Poss k i g ∧ 1 ≤ y ∧ y ≤ 3 then 0 else 2 := by
  by_cases e : Poss k i g ∧ 1 ≤ y ∧ y ≤ 3
  · rw [if_pos e]
    exact LG.chkE_ok (h.att_ok e.1 hg e.2)
  · rw [if_neg e]
    refine LG.chkE_bad fun c => e ⟨⟨c.k0, c.k1, c.i0, c.i1, c.g0⟩, c.y0, c.y1⟩
theorem att_rg {W : Wd} (h : W.Ok) {k i g y : Int} (hr : RgO k i g) (hy : I64 y) : (W.att k i g y).Rg := by
  have h1 := h.T0
  have h2 := h.T1
  have h3 := h.ans
  exact ⟨by show _ ≤ W.T; omega, by show W.T ≤ _; omega, hr.k0, hr.k1, hr.i0, hr.i1, hr.g0, hr.g1, hy.1, hy.2, by show _ ≤ W.h; omega, by show W.h ≤ _; omega⟩
theorem attA {W : Wd} (h : W.Ok) {k i g y : Int} (hp : Poss k i g) (hg : g ≤ 4294967295) (hy : 1 ≤ y ∧ y ≤ 3) : LG.addE W.B (W.att k i g y) = if 10000 ≤ W.B.length then 4 else 0 := by
  have hn : ¬ ∃ z, W.B.getLast? = some z ∧ (W.att k i g y).t < z.t := by
    rintro ⟨z, h1, h2⟩
    have := h.TB z (List.mem_of_getLast? h1)
    have h3 : W.T < z.t := h2
    omega
  have ho := h.att_ok hp hg hy
  by_cases e : 10000 ≤ W.B.length
  · rw [if_pos e]; exact LG.addE_full ho hn e
  · rw [if_neg e]; exact LG.addE_ok ho hn (by omega)
theorem cells6 {w : World} {G : Nat} {a0 a1 a2 a3 a4 a5 : Value} (h : Bk w G 70 #[a0, a1, a2, a3, a4, a5]) : w.cell? ⟨G, 0, none⟩ = some a0 ∧ w.cell? ⟨G, 1, none⟩ = some a1 ∧ w.cell? ⟨G, 2, none⟩ = some a2 ∧ w.cell? ⟨G, 3, none⟩ = some a3 ∧ w.cell? ⟨G, 4, none⟩ = some a4 ∧ w.cell? ⟨G, 5, none⟩ = some a5 := ⟨h.cell 0, h.cell 1, h.cell 2, h.cell 3, h.cell 4, h.cell 5⟩
theorem fz6 {w : World} {G : Nat} {cs : Array Value} (h : Bk w G 70 cs) : w.frozen? ⟨G, 0, none⟩ = false ∧ w.frozen? ⟨G, 1, none⟩ = false ∧ w.frozen? ⟨G, 2, none⟩ = false ∧ w.frozen? ⟨G, 3, none⟩ = false ∧ w.frozen? ⟨G, 4, none⟩ = false ∧ w.frozen? ⟨G, 5, none⟩ = false := ⟨h.frozen 0, h.frozen 1, h.frozen 2, h.frozen 3, h.frozen 4, h.frozen 5⟩
abbrev put6 (w : World) (G : Nat) (a0 a1 a2 a3 a4 a5 : Value) : World := (((((w.setCell ⟨G, 0, none⟩ a0).setCell ⟨G, 1, none⟩ a1).setCell ⟨G, 2, none⟩ a2).setCell ⟨G, 3, none⟩ a3).setCell ⟨G, 4, none⟩ a4).setCell ⟨G, 5, none⟩ a5
theorem put6_bk {w : World} {G : Nat} {b0 b1 b2 b3 b4 b5 : Value} (h : Bk w G 70 #[b0, b1, b2, b3, b4, b5]) (a0 a1 a2 a3 a4 a5 : Value) : Bk (put6 w G a0 a1 a2 a3 a4 a5) G 70 #[a0, a1, a2, a3, a4, a5] :=
  (((((h.put 0 a0).put 1 a1).put 2 a2).put 3 a3).put 4 a4).put 5 a5
theorem put6_kept (w : World) (G : Nat) (a0 a1 a2 a3 a4 a5 : Value) : Kept (· = G) w (put6 w G a0 a1 a2 a3 a4 a5) := ((((((Kept.refl (· = G) w).put1 0 a0).put1 1 a1).put1 2 a2).put1 3 a3).put1 4 a4).put1 5 a5

theorem Wd.back_file (W : Wd) (i g : Int) : W.back 1 i g = { W with F := W.F.closed 1 i g } := by
  have h1 : W.P.unpin 1 i g = W.P := by unfold BF.Po.unpin; rw [if_neg]; intro c; exact absurd (BF.Po.chk_pinned c).1 (by omega)
  have h2 : W.D.ret 1 i g = W.D := by unfold LS.Dk.ret; rw [if_neg]; intro c; exact absurd (LS.Dk.chk_is c).1 (by omega)
  unfold Wd.back
  rw [h1, h2]
theorem Wd.back_buffer (W : Wd) (i g : Int) : W.back 2 i g = { W with P := W.P.unpin 2 i g } := by
  have h1 : W.F.closed 2 i g = W.F := by unfold FD.Fb.closed; rw [if_neg]; intro c; exact absurd (FD.Fb.chk_open c).1 (by omega)
  have h2 : W.D.ret 2 i g = W.D := by unfold LS.Dk.ret; rw [if_neg]; intro c; exact absurd (LS.Dk.chk_is c).1 (by omega)
  unfold Wd.back
  rw [h1, h2]
theorem Wd.back_lease (W : Wd) (i g : Int) : W.back 3 i g = { W with D := W.D.ret 3 i g } := by
  have h1 : W.F.closed 3 i g = W.F := by unfold FD.Fb.closed; rw [if_neg]; intro c; exact absurd (FD.Fb.chk_open c).1 (by omega)
  have h2 : W.P.unpin 3 i g = W.P := by unfold BF.Po.unpin; rw [if_neg]; intro c; exact absurd (BF.Po.chk_pinned c).1 (by omega)
  unfold Wd.back
  rw [h1, h2]
set_option maxRecDepth 100000 in
set_option maxHeartbeats 1000000 in
theorem rel_arg (A : Ad) (W : Wd) (k i g y : Int) (w : World) (h : WW w A W) (he : LG.EnvL w) (hr : RgO k i g) (hy : I64 y) (hp : ¬ (Poss k i g ∧ 1 ≤ y ∧ y ≤ 3)) :
    Calls Tryz.prog 18 #[ptr A.b, .agg #[.int .i64 k, .int .i64 i, .int .u32 g], .int .i64 y] w fun e w' => e = .returned (.tuple #[.int .i64 0, .int .i64 2]) ∧ Below w.heap.size w w' := by
  have HP := Lib.hid hp
  clear hp
  have B0 := bel_new w (.cells #[.int .i64 k, .int .i64 i, .int .u32 g] 25)
  have HB0 := Lib.hid B0
  have n0 := Bk.new w 25 #[.int .i64 k, .int .i64 i, .int .u32 g]
  have HH := Lib.hid h
  have H := Lib.hid (h.below B0).1
  have N0 := Lib.hid n0
  have HE := Lib.hid (he.below B0)
  have hc := H.out.c0
  clear h B0 n0 he
  generalize hw1 : w.alloc (.cells #[.int .i64 k, .int .i64 i, .int .u32 g] 25) = w1 at *
  have HR := Lib.hid hr
  have HY := Lib.hid hy
  clear hr hy
  unfold ptr at *
  have D1 := Lib.hid (bel_drew (Below.refl w1.heap.size w1))
  have LT := Lib.hid (show w.heap.size < w1.heap.size from N0.out.lt)
  obtain ⟨o0, o1, o2⟩ := LS.cells3 (N0.out.below D1.out)
  have h5 := (H.out.below D1.out).1.p5
  have CM : Hid (∀ W' : World, Below w1.heap.size w1 W' → Calls Tryz.prog 69 #[.pointer (some ⟨A.p, 0, none⟩)] W' fun e w' => e = .returned (.int .i64 W.h) ∧ Below W'.heap.size W' w') := fun W' hB => coming_ok A W W' (H.out.below hB).1
  have SC : Hid (∀ W' : World, Below w1.heap.size w1 W' → W'.cell? ⟨A.p, 5, none⟩ = some (.int .i64 W.T) ∧ W'.cell? ⟨w.heap.size, 0, none⟩ = some (.int .i64 k) ∧ W'.cell? ⟨w.heap.size, 1, none⟩ = some (.int .i64 i) ∧ W'.cell? ⟨w.heap.size, 2, none⟩ = some (.int .u32 g)) := fun W' hB => ⟨(H.out.below hB).1.p5, LS.cells3 (N0.out.below hB)⟩
  have DA : Hid (∀ o, Below w1.heap.size w1 (w1.alloc o).drew) := fun o => bel_drew (bel_new w1 _)
  have PB : Hid (∀ (W' : World) (a0 a1 a2 a3 a4 a5 : Value), Below w1.heap.size w1 W' → Below w1.heap.size w1 (put6 W' w1.heap.size a0 a1 a2 a3 a4 a5)) := fun W' a0 a1 a2 a3 a4 a5 hB => hB.trans ((put6_kept W' w1.heap.size a0 a1 a2 a3 a4 a5).below hB.size fun k e => by subst e; exact Nat.le_refl _)
  obtain ⟨T, hT⟩ : ∃ T, W.T = T := ⟨_, rfl⟩
  obtain ⟨z, hz⟩ : ∃ z, W.h = z := ⟨_, rfl⟩
  rw [hT] at h5 SC
  rw [hz] at CM
  have HTT := Lib.hid hT
  have HZZ := Lib.hid hz
  have hatt : W.att k i g y = ⟨T, k, i, g, y, z⟩ := by unfold Wd.att; rw [hT, hz]
  clear hT hz
  have AT := Lib.hid hatt
  clear hatt
  go_enter Tryz.func18, Tryz.ntmps18
  go_wp2_with (go_at_call 62; refine (wvalid_yes _ _ _ hc).mono ?_; rintro e w' ⟨rfl, rfl⟩)
  clear hc
  go_region_held3 (fun W => W.cell? ⟨A.p, 5, none⟩ = some (.int .i64 T) ∧ W.cell? ⟨w.heap.size, 0, none⟩ = some (.int .i64 k) ∧ W.cell? ⟨w.heap.size, 1, none⟩ = some (.int .i64 i) ∧ W.cell? ⟨w.heap.size, 2, none⟩ = some (.int .u32 g)) (first | (with_reducible exact CB) | (with_reducible exact SC.out _ (DA.out _)) | (with_reducible exact SC.out _ (bel_alloc B2.out _)) | (with_reducible exact SC.out _ (PB.out _ _ _ _ _ _ _ B2.out)) | exact ⟨h5, o0, o1, o2⟩) (first
    | (go_at_call 69; (with_reducible refine (CM.out _ (DA.out (.cells #[.int .i64 0, .int .i64 0, .int .i64 0, .int .u32 0, .int .i64 0, .int .i64 0] 70))).mono ?_); rintro e w2 ⟨rfl, hb2⟩; have B2 := Lib.hid (bel2 (DA.out _) hb2); have CB := SC.out w2 B2.out; have HX := Lib.hid ((show Bk (w1.alloc (.cells #[.int .i64 0, .int .i64 0, .int .i64 0, .int .u32 0, .int .i64 0, .int .i64 0] 70)).drew w1.heap.size 70 #[.int .i64 0, .int .i64 0, .int .i64 0, .int .u32 0, .int .i64 0, .int .i64 0] from Bk.new w1 _ _).below hb2); obtain ⟨x0, x1, x2, x3, x4, x5⟩ := cells6 HX.out; obtain ⟨f0, f1, f2, f3, f4, f5⟩ := fz6 HX.out; clear hb2)
    | (go_at_call 69; (with_reducible refine (CM.out _ D1.out).mono ?_); rintro e w2 ⟨rfl, hb2⟩; have B2 := Lib.hid (bel2 D1.out hb2); have CB := SC.out w2 B2.out; clear hb2))
  all_goals
    first
      | (have BF : Hid (Below w1.heap.size w1 (w2.alloc (.cells #[.int .i64 T, .int .i64 k, .int .i64 i, .int .u32 g, .int .i64 y, .int .i64 z] 70))) := bel_alloc B2.out _
         have NF : Hid (Bk (w2.alloc (.cells #[.int .i64 T, .int .i64 k, .int .i64 i, .int .u32 g, .int .i64 y, .int .i64 z] 70)) w2.heap.size 70 #[.int .i64 T, .int .i64 k, .int .i64 i, .int .u32 g, .int .i64 y, .int .i64 z]) := Bk.new w2 _ _
         obtain ⟨G, hG⟩ : ∃ G, w2.heap.size = G := ⟨_, rfl⟩
         rw [hG] at NF ⊢
         generalize w2.alloc (.cells #[.int .i64 T, .int .i64 k, .int .i64 i, .int .u32 g, .int .i64 y, .int .i64 z] 70) = w3 at *
         clear hG)
      | (have BF : Hid (Below w1.heap.size w1 ((((((w2.setCell ⟨w1.heap.size, 0, none⟩ (.int .i64 T)).setCell ⟨w1.heap.size, 1, none⟩ (.int .i64 k)).setCell ⟨w1.heap.size, 2, none⟩ (.int .i64 i)).setCell ⟨w1.heap.size, 3, none⟩ (.int .u32 g)).setCell ⟨w1.heap.size, 4, none⟩ (.int .i64 y)).setCell ⟨w1.heap.size, 5, none⟩ (.int .i64 z))) := PB.out w2 _ _ _ _ _ _ B2.out
         have NF : Hid (Bk ((((((w2.setCell ⟨w1.heap.size, 0, none⟩ (.int .i64 T)).setCell ⟨w1.heap.size, 1, none⟩ (.int .i64 k)).setCell ⟨w1.heap.size, 2, none⟩ (.int .i64 i)).setCell ⟨w1.heap.size, 3, none⟩ (.int .u32 g)).setCell ⟨w1.heap.size, 4, none⟩ (.int .i64 y)).setCell ⟨w1.heap.size, 5, none⟩ (.int .i64 z)) w1.heap.size 70 #[.int .i64 T, .int .i64 k, .int .i64 i, .int .u32 g, .int .i64 y, .int .i64 z]) := put6_bk HX.out _ _ _ _ _ _
         clear x0 x1 x2 x3 x4 x5 f0 f1 f2 f3 f4 f5
         generalize (((((w2.setCell ⟨w1.heap.size, 0, none⟩ (.int .i64 T)).setCell ⟨w1.heap.size, 1, none⟩ (.int .i64 k)).setCell ⟨w1.heap.size, 2, none⟩ (.int .i64 i)).setCell ⟨w1.heap.size, 3, none⟩ (.int .u32 g)).setCell ⟨w1.heap.size, 4, none⟩ (.int .i64 y)).setCell ⟨w1.heap.size, 5, none⟩ (.int .i64 z) = w3 at *
         obtain ⟨G, hG⟩ : ∃ G, w1.heap.size = G := ⟨_, rfl⟩
         rw [hG] at NF ⊢
         clear hG)
    clear CB o0 o1 o2 h5
    have H3 := Lib.hid (H.out.below BF.out).1
    have M3 := Lib.hid (N0.out.below BF.out)
    have E3 := Lib.hid (HE.out.below BF.out)
    obtain ⟨x0, x1, x2, x3, x4, x5⟩ := cells6 NF.out
    have CK : Hid (Calls Tryz.prog 48 #[.agg #[.int .i64 T, .int .i64 k, .int .i64 i, .int .u32 g, .int .i64 y, .int .i64 z]] w3 fun e w' => e = .returned (.int .i64 (LG.chkE ⟨T, k, i, g, y, z⟩)) ∧ Below w3.heap.size w3 w') := LG.chk_att ⟨T, k, i, g, y, z⟩ (by have := att_rg HH.out.ok HR.out HY.out; rwa [AT.out] at this) w3 E3.out
    have ee := attE (k := k) (i := i) (y := y) HH.out.ok HR.out.g1
    rw [if_neg HP.out, AT.out] at ee
    rw [ee] at CK
    clear ee
    go_wp2_with fail
    refine CK.out.mono ?_
    rintro e w4 ⟨rfl, hb4⟩
    have B4 := Lib.hid (HB0.out.trans ((bel2 BF.out hb4).mono HB0.out.size))
    clear hb4 x0 x1 x2 x3 x4 x5
    go_wp2
    exact bodyPost_ret (v := .tuple #[.int .i64 0, .int .i64 2]) (by simp [results, Tryz.results18, go_sem]) rfl ⟨rfl, B4.out⟩
set_option maxRecDepth 100000 in
set_option maxHeartbeats 1000000 in
theorem rel_none (A : Ad) (W : Wd) (k i g y : Int) (w : World) (h : WW w A W) (he : LG.EnvL w) (hr : RgO k i g) (hy : I64 y) (hp : Poss k i g) (hw : 1 ≤ y ∧ y ≤ 3) (hh : ¬ W.Here k i g) :
    Calls Tryz.prog 18 #[ptr A.b, .agg #[.int .i64 k, .int .i64 i, .int .u32 g], .int .i64 y] w fun e w' => e = .returned (.tuple #[.int .i64 0, .int .i64 5]) ∧ Below w.heap.size w w' := by
  have HP := Lib.hid (And.intro hp hw)
  have HX2 : Hid (false = true ↔ W.Here k i g) := ⟨fun e => by (cases e), fun e => absurd e hh⟩
  clear hp hw hh
  have B0 := bel_new w (.cells #[.int .i64 k, .int .i64 i, .int .u32 g] 25)
  have HB0 := Lib.hid B0
  have n0 := Bk.new w 25 #[.int .i64 k, .int .i64 i, .int .u32 g]
  have HH := Lib.hid h
  have H := Lib.hid (h.below B0).1
  have N0 := Lib.hid n0
  have HE := Lib.hid (he.below B0)
  have hc := H.out.c0
  clear h B0 n0 he
  generalize hw1 : w.alloc (.cells #[.int .i64 k, .int .i64 i, .int .u32 g] 25) = w1 at *
  have HR := Lib.hid hr
  have HY := Lib.hid hy
  clear hr hy
  unfold ptr at *
  have D1 := Lib.hid (bel_drew (Below.refl w1.heap.size w1))
  have LT := Lib.hid (show w.heap.size < w1.heap.size from N0.out.lt)
  obtain ⟨o0, o1, o2⟩ := LS.cells3 (N0.out.below D1.out)
  have h5 := (H.out.below D1.out).1.p5
  have CM : Hid (∀ W' : World, Below w1.heap.size w1 W' → Calls Tryz.prog 69 #[.pointer (some ⟨A.p, 0, none⟩)] W' fun e w' => e = .returned (.int .i64 W.h) ∧ Below W'.heap.size W' w') := fun W' hB => coming_ok A W W' (H.out.below hB).1
  have SC : Hid (∀ W' : World, Below w1.heap.size w1 W' → W'.cell? ⟨A.p, 5, none⟩ = some (.int .i64 W.T) ∧ W'.cell? ⟨w.heap.size, 0, none⟩ = some (.int .i64 k) ∧ W'.cell? ⟨w.heap.size, 1, none⟩ = some (.int .i64 i) ∧ W'.cell? ⟨w.heap.size, 2, none⟩ = some (.int .u32 g)) := fun W' hB => ⟨(H.out.below hB).1.p5, LS.cells3 (N0.out.below hB)⟩
  have DA : Hid (∀ o, Below w1.heap.size w1 (w1.alloc o).drew) := fun o => bel_drew (bel_new w1 _)
  have PB : Hid (∀ (W' : World) (a0 a1 a2 a3 a4 a5 : Value), Below w1.heap.size w1 W' → Below w1.heap.size w1 (put6 W' w1.heap.size a0 a1 a2 a3 a4 a5)) := fun W' a0 a1 a2 a3 a4 a5 hB => hB.trans ((put6_kept W' w1.heap.size a0 a1 a2 a3 a4 a5).below hB.size fun k e => by subst e; exact Nat.le_refl _)
  obtain ⟨T, hT⟩ : ∃ T, W.T = T := ⟨_, rfl⟩
  obtain ⟨z, hz⟩ : ∃ z, W.h = z := ⟨_, rfl⟩
  rw [hT] at h5 SC
  rw [hz] at CM
  have HTT := Lib.hid hT
  have HZZ := Lib.hid hz
  have hatt : W.att k i g y = ⟨T, k, i, g, y, z⟩ := by unfold Wd.att; rw [hT, hz]
  clear hT hz
  have AT := Lib.hid hatt
  clear hatt
  go_enter Tryz.func18, Tryz.ntmps18
  go_wp2_with (go_at_call 62; refine (wvalid_yes _ _ _ hc).mono ?_; rintro e w' ⟨rfl, rfl⟩)
  clear hc
  go_region_held3 (fun W => W.cell? ⟨A.p, 5, none⟩ = some (.int .i64 T) ∧ W.cell? ⟨w.heap.size, 0, none⟩ = some (.int .i64 k) ∧ W.cell? ⟨w.heap.size, 1, none⟩ = some (.int .i64 i) ∧ W.cell? ⟨w.heap.size, 2, none⟩ = some (.int .u32 g)) (first | (with_reducible exact CB) | (with_reducible exact SC.out _ (DA.out _)) | (with_reducible exact SC.out _ (bel_alloc B2.out _)) | (with_reducible exact SC.out _ (PB.out _ _ _ _ _ _ _ B2.out)) | exact ⟨h5, o0, o1, o2⟩) (first
    | (go_at_call 69; (with_reducible refine (CM.out _ (DA.out (.cells #[.int .i64 0, .int .i64 0, .int .i64 0, .int .u32 0, .int .i64 0, .int .i64 0] 70))).mono ?_); rintro e w2 ⟨rfl, hb2⟩; have B2 := Lib.hid (bel2 (DA.out _) hb2); have CB := SC.out w2 B2.out; have HX := Lib.hid ((show Bk (w1.alloc (.cells #[.int .i64 0, .int .i64 0, .int .i64 0, .int .u32 0, .int .i64 0, .int .i64 0] 70)).drew w1.heap.size 70 #[.int .i64 0, .int .i64 0, .int .i64 0, .int .u32 0, .int .i64 0, .int .i64 0] from Bk.new w1 _ _).below hb2); obtain ⟨x0, x1, x2, x3, x4, x5⟩ := cells6 HX.out; obtain ⟨f0, f1, f2, f3, f4, f5⟩ := fz6 HX.out; clear hb2)
    | (go_at_call 69; (with_reducible refine (CM.out _ D1.out).mono ?_); rintro e w2 ⟨rfl, hb2⟩; have B2 := Lib.hid (bel2 D1.out hb2); have CB := SC.out w2 B2.out; clear hb2))
  all_goals
    first
      | (have BF : Hid (Below w1.heap.size w1 (w2.alloc (.cells #[.int .i64 T, .int .i64 k, .int .i64 i, .int .u32 g, .int .i64 y, .int .i64 z] 70))) := bel_alloc B2.out _
         have NF : Hid (Bk (w2.alloc (.cells #[.int .i64 T, .int .i64 k, .int .i64 i, .int .u32 g, .int .i64 y, .int .i64 z] 70)) w2.heap.size 70 #[.int .i64 T, .int .i64 k, .int .i64 i, .int .u32 g, .int .i64 y, .int .i64 z]) := Bk.new w2 _ _
         obtain ⟨G, hG⟩ : ∃ G, w2.heap.size = G := ⟨_, rfl⟩
         rw [hG] at NF ⊢
         generalize w2.alloc (.cells #[.int .i64 T, .int .i64 k, .int .i64 i, .int .u32 g, .int .i64 y, .int .i64 z] 70) = w3 at *
         clear hG)
      | (have BF : Hid (Below w1.heap.size w1 ((((((w2.setCell ⟨w1.heap.size, 0, none⟩ (.int .i64 T)).setCell ⟨w1.heap.size, 1, none⟩ (.int .i64 k)).setCell ⟨w1.heap.size, 2, none⟩ (.int .i64 i)).setCell ⟨w1.heap.size, 3, none⟩ (.int .u32 g)).setCell ⟨w1.heap.size, 4, none⟩ (.int .i64 y)).setCell ⟨w1.heap.size, 5, none⟩ (.int .i64 z))) := PB.out w2 _ _ _ _ _ _ B2.out
         have NF : Hid (Bk ((((((w2.setCell ⟨w1.heap.size, 0, none⟩ (.int .i64 T)).setCell ⟨w1.heap.size, 1, none⟩ (.int .i64 k)).setCell ⟨w1.heap.size, 2, none⟩ (.int .i64 i)).setCell ⟨w1.heap.size, 3, none⟩ (.int .u32 g)).setCell ⟨w1.heap.size, 4, none⟩ (.int .i64 y)).setCell ⟨w1.heap.size, 5, none⟩ (.int .i64 z)) w1.heap.size 70 #[.int .i64 T, .int .i64 k, .int .i64 i, .int .u32 g, .int .i64 y, .int .i64 z]) := put6_bk HX.out _ _ _ _ _ _
         clear x0 x1 x2 x3 x4 x5 f0 f1 f2 f3 f4 f5
         generalize (((((w2.setCell ⟨w1.heap.size, 0, none⟩ (.int .i64 T)).setCell ⟨w1.heap.size, 1, none⟩ (.int .i64 k)).setCell ⟨w1.heap.size, 2, none⟩ (.int .i64 i)).setCell ⟨w1.heap.size, 3, none⟩ (.int .u32 g)).setCell ⟨w1.heap.size, 4, none⟩ (.int .i64 y)).setCell ⟨w1.heap.size, 5, none⟩ (.int .i64 z) = w3 at *
         obtain ⟨G, hG⟩ : ∃ G, w1.heap.size = G := ⟨_, rfl⟩
         rw [hG] at NF ⊢
         clear hG)
    clear CB o0 o1 o2 h5
    have H3 := Lib.hid (H.out.below BF.out).1
    have M3 := Lib.hid (N0.out.below BF.out)
    have E3 := Lib.hid (HE.out.below BF.out)
    obtain ⟨x0, x1, x2, x3, x4, x5⟩ := cells6 NF.out
    have CK : Hid (Calls Tryz.prog 48 #[.agg #[.int .i64 T, .int .i64 k, .int .i64 i, .int .u32 g, .int .i64 y, .int .i64 z]] w3 fun e w' => e = .returned (.int .i64 (LG.chkE ⟨T, k, i, g, y, z⟩)) ∧ Below w3.heap.size w3 w') := LG.chk_att ⟨T, k, i, g, y, z⟩ (by have := att_rg HH.out.ok HR.out HY.out; rwa [AT.out] at this) w3 E3.out
    have ee := attE (k := k) (i := i) (y := y) HH.out.ok HR.out.g1
    rw [if_pos HP.out, AT.out] at ee
    rw [ee] at CK
    clear ee
    go_wp2_with fail
    refine CK.out.mono ?_
    rintro e w4 ⟨rfl, hb4⟩
    have B4 := Lib.hid (bel2 BF.out hb4)
    have H4 := Lib.hid (H3.out.below hb4).1
    have E4 := Lib.hid (E3.out.below hb4)
    have M4 := Lib.hid (M3.out.below hb4)
    have N4 := Lib.hid (NF.out.below hb4)
    clear hb4 x0 x1 x2 x3 x4 x5 CK
    obtain ⟨o0, o1, o2⟩ := LS.cells3 M4.out
    go_wp2_with fail
    refine (whas_ok A W k i g false w4 H4.out HX2.out).mono ?_
    rintro e w5 ⟨rfl, hb5⟩
    have B5 := Lib.hid (bel2 B4.out hb5)
    have H5 := Lib.hid (H4.out.below hb5).1
    have E5 := Lib.hid (E4.out.below hb5)
    have M5 := Lib.hid (M4.out.below hb5)
    have N5 := Lib.hid (N4.out.below hb5)
    clear hb5 o0 o1 o2
    go_wp2
    exact bodyPost_ret (v := .tuple #[.int .i64 0, .int .i64 5]) (by simp [results, Tryz.results18, go_sem]) rfl ⟨rfl, HB0.out.trans (B5.out.mono HB0.out.size)⟩
set_option maxRecDepth 100000 in
set_option maxHeartbeats 1000000 in
theorem rel_full (A : Ad) (W : Wd) (k i g y : Int) (w : World) (h : WW w A W) (he : LG.EnvL w) (hr : RgO k i g) (hy : I64 y) (hp : Poss k i g) (hw : 1 ≤ y ∧ y ≤ 3) (hh : W.Here k i g) (hl : 10000 ≤ W.B.length) :
    Calls Tryz.prog 18 #[ptr A.b, .agg #[.int .i64 k, .int .i64 i, .int .u32 g], .int .i64 y] w fun e w' => e = .returned (.tuple #[.int .i64 0, .int .i64 4]) ∧ WW w' A W ∧ WStep A w w' := by
  have HP := Lib.hid (And.intro hp hw)
  have HX2 : Hid (W.Here k i g) := hh
  have HAE : Hid (LG.addE W.B (W.att k i g y) = 4) := (attA h.ok hp hr.g1 hw).trans (if_pos hl)
  have HAL : Hid (LG.addL W.B (W.att k i g y) = W.B) := by unfold Hid LG.addL; rw [HAE.out]; rfl
  have HOK : Hid (Wd.Ok { W with B := LG.addL W.B (W.att k i g y) }) := by rw [HAL.out]; exact h.ok
  clear hp hw hh hl
  have B0 := bel_new w (.cells #[.int .i64 k, .int .i64 i, .int .u32 g] 25)
  have HB0 := Lib.hid B0
  have n0 := Bk.new w 25 #[.int .i64 k, .int .i64 i, .int .u32 g]
  have HH := Lib.hid h
  have H := Lib.hid (h.below B0).1
  have N0 := Lib.hid n0
  have HE := Lib.hid (he.below B0)
  have hc := H.out.c0
  clear h B0 n0 he
  generalize hw1 : w.alloc (.cells #[.int .i64 k, .int .i64 i, .int .u32 g] 25) = w1 at *
  have HR := Lib.hid hr
  have HY := Lib.hid hy
  clear hr hy
  unfold ptr at *
  have D1 := Lib.hid (bel_drew (Below.refl w1.heap.size w1))
  have LT := Lib.hid (show w.heap.size < w1.heap.size from N0.out.lt)
  obtain ⟨o0, o1, o2⟩ := LS.cells3 (N0.out.below D1.out)
  have h5 := (H.out.below D1.out).1.p5
  have CM : Hid (∀ W' : World, Below w1.heap.size w1 W' → Calls Tryz.prog 69 #[.pointer (some ⟨A.p, 0, none⟩)] W' fun e w' => e = .returned (.int .i64 W.h) ∧ Below W'.heap.size W' w') := fun W' hB => coming_ok A W W' (H.out.below hB).1
  have SC : Hid (∀ W' : World, Below w1.heap.size w1 W' → W'.cell? ⟨A.p, 5, none⟩ = some (.int .i64 W.T) ∧ W'.cell? ⟨w.heap.size, 0, none⟩ = some (.int .i64 k) ∧ W'.cell? ⟨w.heap.size, 1, none⟩ = some (.int .i64 i) ∧ W'.cell? ⟨w.heap.size, 2, none⟩ = some (.int .u32 g)) := fun W' hB => ⟨(H.out.below hB).1.p5, LS.cells3 (N0.out.below hB)⟩
  have DA : Hid (∀ o, Below w1.heap.size w1 (w1.alloc o).drew) := fun o => bel_drew (bel_new w1 _)
  have PB : Hid (∀ (W' : World) (a0 a1 a2 a3 a4 a5 : Value), Below w1.heap.size w1 W' → Below w1.heap.size w1 (put6 W' w1.heap.size a0 a1 a2 a3 a4 a5)) := fun W' a0 a1 a2 a3 a4 a5 hB => hB.trans ((put6_kept W' w1.heap.size a0 a1 a2 a3 a4 a5).below hB.size fun k e => by subst e; exact Nat.le_refl _)
  obtain ⟨T, hT⟩ : ∃ T, W.T = T := ⟨_, rfl⟩
  obtain ⟨z, hz⟩ : ∃ z, W.h = z := ⟨_, rfl⟩
  rw [hT] at h5 SC
  rw [hz] at CM
  have HTT := Lib.hid hT
  have HZZ := Lib.hid hz
  have hatt : W.att k i g y = ⟨T, k, i, g, y, z⟩ := by unfold Wd.att; rw [hT, hz]
  clear hT hz
  have AT := Lib.hid hatt
  clear hatt
  go_enter Tryz.func18, Tryz.ntmps18
  go_wp2_with (go_at_call 62; refine (wvalid_yes _ _ _ hc).mono ?_; rintro e w' ⟨rfl, rfl⟩)
  clear hc
  go_region_held3 (fun W => W.cell? ⟨A.p, 5, none⟩ = some (.int .i64 T) ∧ W.cell? ⟨w.heap.size, 0, none⟩ = some (.int .i64 k) ∧ W.cell? ⟨w.heap.size, 1, none⟩ = some (.int .i64 i) ∧ W.cell? ⟨w.heap.size, 2, none⟩ = some (.int .u32 g)) (first | (with_reducible exact CB) | (with_reducible exact SC.out _ (DA.out _)) | (with_reducible exact SC.out _ (bel_alloc B2.out _)) | (with_reducible exact SC.out _ (PB.out _ _ _ _ _ _ _ B2.out)) | exact ⟨h5, o0, o1, o2⟩) (first
    | (go_at_call 69; (with_reducible refine (CM.out _ (DA.out (.cells #[.int .i64 0, .int .i64 0, .int .i64 0, .int .u32 0, .int .i64 0, .int .i64 0] 70))).mono ?_); rintro e w2 ⟨rfl, hb2⟩; have B2 := Lib.hid (bel2 (DA.out _) hb2); have CB := SC.out w2 B2.out; have HX := Lib.hid ((show Bk (w1.alloc (.cells #[.int .i64 0, .int .i64 0, .int .i64 0, .int .u32 0, .int .i64 0, .int .i64 0] 70)).drew w1.heap.size 70 #[.int .i64 0, .int .i64 0, .int .i64 0, .int .u32 0, .int .i64 0, .int .i64 0] from Bk.new w1 _ _).below hb2); obtain ⟨x0, x1, x2, x3, x4, x5⟩ := cells6 HX.out; obtain ⟨f0, f1, f2, f3, f4, f5⟩ := fz6 HX.out; clear hb2)
    | (go_at_call 69; (with_reducible refine (CM.out _ D1.out).mono ?_); rintro e w2 ⟨rfl, hb2⟩; have B2 := Lib.hid (bel2 D1.out hb2); have CB := SC.out w2 B2.out; clear hb2))
  all_goals
    first
      | (have BF : Hid (Below w1.heap.size w1 (w2.alloc (.cells #[.int .i64 T, .int .i64 k, .int .i64 i, .int .u32 g, .int .i64 y, .int .i64 z] 70))) := bel_alloc B2.out _
         have NF : Hid (Bk (w2.alloc (.cells #[.int .i64 T, .int .i64 k, .int .i64 i, .int .u32 g, .int .i64 y, .int .i64 z] 70)) w2.heap.size 70 #[.int .i64 T, .int .i64 k, .int .i64 i, .int .u32 g, .int .i64 y, .int .i64 z]) := Bk.new w2 _ _
         obtain ⟨G, hG⟩ : ∃ G, w2.heap.size = G := ⟨_, rfl⟩
         rw [hG] at NF ⊢
         generalize w2.alloc (.cells #[.int .i64 T, .int .i64 k, .int .i64 i, .int .u32 g, .int .i64 y, .int .i64 z] 70) = w3 at *
         have GLT : Hid (w1.heap.size ≤ G) := by rw [← hG]; exact B2.out.size
         clear hG)
      | (have BF : Hid (Below w1.heap.size w1 ((((((w2.setCell ⟨w1.heap.size, 0, none⟩ (.int .i64 T)).setCell ⟨w1.heap.size, 1, none⟩ (.int .i64 k)).setCell ⟨w1.heap.size, 2, none⟩ (.int .i64 i)).setCell ⟨w1.heap.size, 3, none⟩ (.int .u32 g)).setCell ⟨w1.heap.size, 4, none⟩ (.int .i64 y)).setCell ⟨w1.heap.size, 5, none⟩ (.int .i64 z))) := PB.out w2 _ _ _ _ _ _ B2.out
         have NF : Hid (Bk ((((((w2.setCell ⟨w1.heap.size, 0, none⟩ (.int .i64 T)).setCell ⟨w1.heap.size, 1, none⟩ (.int .i64 k)).setCell ⟨w1.heap.size, 2, none⟩ (.int .i64 i)).setCell ⟨w1.heap.size, 3, none⟩ (.int .u32 g)).setCell ⟨w1.heap.size, 4, none⟩ (.int .i64 y)).setCell ⟨w1.heap.size, 5, none⟩ (.int .i64 z)) w1.heap.size 70 #[.int .i64 T, .int .i64 k, .int .i64 i, .int .u32 g, .int .i64 y, .int .i64 z]) := put6_bk HX.out _ _ _ _ _ _
         clear x0 x1 x2 x3 x4 x5 f0 f1 f2 f3 f4 f5
         generalize (((((w2.setCell ⟨w1.heap.size, 0, none⟩ (.int .i64 T)).setCell ⟨w1.heap.size, 1, none⟩ (.int .i64 k)).setCell ⟨w1.heap.size, 2, none⟩ (.int .i64 i)).setCell ⟨w1.heap.size, 3, none⟩ (.int .u32 g)).setCell ⟨w1.heap.size, 4, none⟩ (.int .i64 y)).setCell ⟨w1.heap.size, 5, none⟩ (.int .i64 z) = w3 at *
         obtain ⟨G, hG⟩ : ∃ G, w1.heap.size = G := ⟨_, rfl⟩
         rw [hG] at NF ⊢
         have GLT : Hid (w1.heap.size ≤ G) := by rw [hG]; exact Nat.le_refl _
         clear hG)
    clear CB o0 o1 o2 h5
    have H3 := Lib.hid (H.out.below BF.out).1
    have M3 := Lib.hid (N0.out.below BF.out)
    have E3 := Lib.hid (HE.out.below BF.out)
    obtain ⟨x0, x1, x2, x3, x4, x5⟩ := cells6 NF.out
    have CK : Hid (Calls Tryz.prog 48 #[.agg #[.int .i64 T, .int .i64 k, .int .i64 i, .int .u32 g, .int .i64 y, .int .i64 z]] w3 fun e w' => e = .returned (.int .i64 (LG.chkE ⟨T, k, i, g, y, z⟩)) ∧ Below w3.heap.size w3 w') := LG.chk_att ⟨T, k, i, g, y, z⟩ (by have := att_rg HH.out.ok HR.out HY.out; rwa [AT.out] at this) w3 E3.out
    have ee := attE (k := k) (i := i) (y := y) HH.out.ok HR.out.g1
    rw [if_pos HP.out, AT.out] at ee
    rw [ee] at CK
    clear ee
    go_wp2_with fail
    refine CK.out.mono ?_
    rintro e w4 ⟨rfl, hb4⟩
    have B4 := Lib.hid (bel2 BF.out hb4)
    have H4 := Lib.hid (H3.out.below hb4).1
    have E4 := Lib.hid (E3.out.below hb4)
    have M4 := Lib.hid (M3.out.below hb4)
    have N4 := Lib.hid (NF.out.below hb4)
    clear hb4 x0 x1 x2 x3 x4 x5 CK
    obtain ⟨o0, o1, o2⟩ := LS.cells3 M4.out
    go_wp2_with fail
    refine (whas_ok A W k i g true w4 H4.out ⟨fun _ => HX2.out, fun _ => rfl⟩).mono ?_
    rintro e w5 ⟨rfl, hb5⟩
    have B5 := Lib.hid (bel2 B4.out hb5)
    have H5 := Lib.hid (H4.out.below hb5).1
    have E5 := Lib.hid (E4.out.below hb5)
    have M5 := Lib.hid (M4.out.below hb5)
    have N5 := Lib.hid (N4.out.below hb5)
    clear hb5 o0 o1 o2
    go_wp2_with fail
    have D5 := Lib.hid (bel_drew (Below.refl w5.heap.size w5))
    have H6 := Lib.hid (H5.out.below D5.out).1
    have M6 := Lib.hid (M5.out.below D5.out)
    have N6 := Lib.hid (N5.out.below D5.out)
    have B6 := Lib.hid (HB0.out.trans ((bel2 B5.out D5.out).mono HB0.out.size))
    have p4 := H6.out.p4
    unfold ptr at p4
    obtain ⟨x0, x1, x2, x3, x4, x5⟩ := cells6 N6.out
    have GL : Hid (¬ WFoot w5.drew A G) := fun x => by
      have q1 := HH.out.foot_lt (((HH.out.below B6.out).2 _).1 x)
      have q2 := GLT.out
      have q3 := LT.out
      omega
    have BL : Hid (¬ WFoot w5.drew A w.heap.size) := fun x => by
      have q1 := HH.out.foot_lt (((HH.out.below B6.out).2 _).1 x)
      omega
    have AD : Hid (Calls Tryz.prog 70 #[.pointer (some ⟨A.l, 0, none⟩), .agg #[.int .i64 T, .int .i64 k, .int .i64 i, .int .u32 g, .int .i64 y, .int .i64 z]] w5.drew fun e w' => e = .returned (.int .i64 4) ∧ (WW w' A { W with B := LG.addL W.B (W.att k i g y) } ∧ WStep A w w') ∧ (w'.cell? ⟨A.p, 4, none⟩ = some (.pointer (some ⟨A.l, 0, none⟩)) ∧ w'.cell? ⟨G, 0, none⟩ = some (.int .i64 T) ∧ w'.cell? ⟨G, 1, none⟩ = some (.int .i64 k) ∧ w'.cell? ⟨G, 2, none⟩ = some (.int .i64 i) ∧ w'.cell? ⟨G, 3, none⟩ = some (.int .u32 g) ∧ w'.cell? ⟨G, 4, none⟩ = some (.int .i64 y) ∧ w'.cell? ⟨G, 5, none⟩ = some (.int .i64 z)) ∧ Bk w' G 70 #[.int .i64 T, .int .i64 k, .int .i64 i, .int .u32 g, .int .i64 y, .int .i64 z] ∧ Bk w' w.heap.size 25 #[.int .i64 k, .int .i64 i, .int .u32 g] ∧ ¬ WFoot w' A G ∧ ¬ WFoot w' A w.heap.size) := by
      have hrg := att_rg (k := k) (i := i) (g := g) HH.out.ok HR.out HY.out
      have hadd := LG.add_ok A.l A.lb A.lo W.B (W.att k i g y) w5.drew H6.out.hL hrg (E5.out.below D5.out)
      rw [AT.out] at hadd ⊢
      refine hadd.mono ?_
      rintro e w' ⟨rfl, q1, q2, q3⟩
      have hok : Wd.Ok { W with B := LG.addL W.B ⟨T, k, i, g, y, z⟩ } := by
        have := HOK.out
        rwa [AT.out] at this
      obtain ⟨y1, y2⟩ := H6.out.stepL q2 q1 q3 hok
      have g6 := N6.out.kept y2.k GL.out
      have m6 := M6.out.kept y2.k BL.out
      refine ⟨by have := HAE.out; rw [AT.out] at this; rw [this], ⟨y1, (HH.out.quiet B6.out).trans y2⟩, ⟨y1.p4, cells6 g6⟩, g6, m6, fun x => by rcases y2.g _ x with u | u; exact GL.out u; have := N6.out.lt; omega, fun x => by rcases y2.g _ x with u | u; exact BL.out u; have := M6.out.lt; omega⟩
    go_region_held3 (fun W => W.cell? ⟨A.p, 4, none⟩ = some (.pointer (some ⟨A.l, 0, none⟩)) ∧ W.cell? ⟨G, 0, none⟩ = some (.int .i64 T) ∧ W.cell? ⟨G, 1, none⟩ = some (.int .i64 k) ∧ W.cell? ⟨G, 2, none⟩ = some (.int .i64 i) ∧ W.cell? ⟨G, 3, none⟩ = some (.int .u32 g) ∧ W.cell? ⟨G, 4, none⟩ = some (.int .i64 y) ∧ W.cell? ⟨G, 5, none⟩ = some (.int .i64 z)) (first | (with_reducible exact CC) | exact ⟨p4, x0, x1, x2, x3, x4, x5⟩) (first
      | (go_at_call 70; refine AD.out.mono ?_; rintro e w7 ⟨rfl, hst, CC, hg7, hm7, hu7, hv7⟩; have U7 := Lib.hid hu7; have V7 := Lib.hid hv7; have ST := Lib.hid hst; have G7 := Lib.hid hg7; have M7 := Lib.hid hm7; clear hst hg7 hm7 hu7 hv7))
    all_goals
      clear x0 x1 x2 x3 x4 x5 p4
      go_wp2
      refine bodyPost_ret (v := .tuple #[.int .i64 0, .int .i64 4]) (by simp [results, Tryz.results18, go_sem]) rfl ⟨rfl, ?_⟩
      have := ST.out
      rwa [HAL.out] at this
set_option maxRecDepth 100000 in
set_option maxHeartbeats 1000000 in
theorem rel_try (A : Ad) (W : Wd) (k i g y : Int) (w : World) (h : WW w A W) (he : LG.EnvL w) (hr : RgO k i g) (hy : I64 y) (hp : Poss k i g) (hw : 1 ≤ y ∧ y ≤ 3) (hh : W.Here k i g) (hl : W.B.length < 10000) (hz1 : W.h ≠ 1) :
    Calls Tryz.prog 18 #[ptr A.b, .agg #[.int .i64 k, .int .i64 i, .int .u32 g], .int .i64 y] w fun e w' => e = .returned (.tuple #[.int .i64 W.h, .int .i64 0]) ∧ WW w' A (W.tried k i g y) ∧ WStep A w w' := by
  have HP := Lib.hid (And.intro hp hw)
  have HX2 : Hid (W.Here k i g) := hh
  have HAE : Hid (LG.addE W.B (W.att k i g y) = 0) := (attA h.ok hp hr.g1 hw).trans (if_neg (by omega))
  have HAL : Hid (LG.addL W.B (W.att k i g y) = W.B ++ [W.att k i g y]) := by unfold Hid LG.addL; rw [HAE.out]; rfl
  have hlE : W.lE k i g y = 0 := by unfold Wd.lE; rw [if_neg (not_not_intro ⟨hp, hw⟩), if_neg (not_not_intro hh), if_neg (by omega)]
  have HTR : Hid (W.tried k i g y).Ok := h.ok.tried hlE
  have HOK : Hid (Wd.Ok { W with B := LG.addL W.B (W.att k i g y) }) := by
    rw [HAL.out]
    exact ⟨h.ok.F, h.ok.nF, h.ok.P, h.ok.nP, h.ok.D, h.ok.nD, h.ok.L, HTR.out.B, HTR.out.lB, h.ok.T0, h.ok.T1, HTR.out.TB⟩
  have HZ1 := Lib.hid hz1
  clear hp hw hh hl hz1 hlE
  have B0 := bel_new w (.cells #[.int .i64 k, .int .i64 i, .int .u32 g] 25)
  have HB0 := Lib.hid B0
  have n0 := Bk.new w 25 #[.int .i64 k, .int .i64 i, .int .u32 g]
  have HH := Lib.hid h
  have H := Lib.hid (h.below B0).1
  have N0 := Lib.hid n0
  have HE := Lib.hid (he.below B0)
  have hc := H.out.c0
  clear h B0 n0 he
  generalize hw1 : w.alloc (.cells #[.int .i64 k, .int .i64 i, .int .u32 g] 25) = w1 at *
  have HR := Lib.hid hr
  have HY := Lib.hid hy
  clear hr hy
  unfold ptr at *
  have D1 := Lib.hid (bel_drew (Below.refl w1.heap.size w1))
  have LT := Lib.hid (show w.heap.size < w1.heap.size from N0.out.lt)
  obtain ⟨o0, o1, o2⟩ := LS.cells3 (N0.out.below D1.out)
  have h5 := (H.out.below D1.out).1.p5
  have CM : Hid (∀ W' : World, Below w1.heap.size w1 W' → Calls Tryz.prog 69 #[.pointer (some ⟨A.p, 0, none⟩)] W' fun e w' => e = .returned (.int .i64 W.h) ∧ Below W'.heap.size W' w') := fun W' hB => coming_ok A W W' (H.out.below hB).1
  have SC : Hid (∀ W' : World, Below w1.heap.size w1 W' → W'.cell? ⟨A.p, 5, none⟩ = some (.int .i64 W.T) ∧ W'.cell? ⟨w.heap.size, 0, none⟩ = some (.int .i64 k) ∧ W'.cell? ⟨w.heap.size, 1, none⟩ = some (.int .i64 i) ∧ W'.cell? ⟨w.heap.size, 2, none⟩ = some (.int .u32 g)) := fun W' hB => ⟨(H.out.below hB).1.p5, LS.cells3 (N0.out.below hB)⟩
  have DA : Hid (∀ o, Below w1.heap.size w1 (w1.alloc o).drew) := fun o => bel_drew (bel_new w1 _)
  have PB : Hid (∀ (W' : World) (a0 a1 a2 a3 a4 a5 : Value), Below w1.heap.size w1 W' → Below w1.heap.size w1 (put6 W' w1.heap.size a0 a1 a2 a3 a4 a5)) := fun W' a0 a1 a2 a3 a4 a5 hB => hB.trans ((put6_kept W' w1.heap.size a0 a1 a2 a3 a4 a5).below hB.size fun k e => by subst e; exact Nat.le_refl _)
  obtain ⟨T, hT⟩ : ∃ T, W.T = T := ⟨_, rfl⟩
  obtain ⟨z, hz⟩ : ∃ z, W.h = z := ⟨_, rfl⟩
  rw [hT] at h5 SC
  rw [hz] at CM
  have HTT := Lib.hid hT
  have HZZ := Lib.hid hz
  have hatt : W.att k i g y = ⟨T, k, i, g, y, z⟩ := by unfold Wd.att; rw [hT, hz]
  clear hT hz
  have AT := Lib.hid hatt
  clear hatt
  go_enter Tryz.func18, Tryz.ntmps18
  go_wp2_with (go_at_call 62; refine (wvalid_yes _ _ _ hc).mono ?_; rintro e w' ⟨rfl, rfl⟩)
  clear hc
  go_region_held3 (fun W => W.cell? ⟨A.p, 5, none⟩ = some (.int .i64 T) ∧ W.cell? ⟨w.heap.size, 0, none⟩ = some (.int .i64 k) ∧ W.cell? ⟨w.heap.size, 1, none⟩ = some (.int .i64 i) ∧ W.cell? ⟨w.heap.size, 2, none⟩ = some (.int .u32 g)) (first | (with_reducible exact CB) | (with_reducible exact SC.out _ (DA.out _)) | (with_reducible exact SC.out _ (bel_alloc B2.out _)) | (with_reducible exact SC.out _ (PB.out _ _ _ _ _ _ _ B2.out)) | exact ⟨h5, o0, o1, o2⟩) (first
    | (go_at_call 69; (with_reducible refine (CM.out _ (DA.out (.cells #[.int .i64 0, .int .i64 0, .int .i64 0, .int .u32 0, .int .i64 0, .int .i64 0] 70))).mono ?_); rintro e w2 ⟨rfl, hb2⟩; have B2 := Lib.hid (bel2 (DA.out _) hb2); have CB := SC.out w2 B2.out; have HX := Lib.hid ((show Bk (w1.alloc (.cells #[.int .i64 0, .int .i64 0, .int .i64 0, .int .u32 0, .int .i64 0, .int .i64 0] 70)).drew w1.heap.size 70 #[.int .i64 0, .int .i64 0, .int .i64 0, .int .u32 0, .int .i64 0, .int .i64 0] from Bk.new w1 _ _).below hb2); obtain ⟨x0, x1, x2, x3, x4, x5⟩ := cells6 HX.out; obtain ⟨f0, f1, f2, f3, f4, f5⟩ := fz6 HX.out; clear hb2)
    | (go_at_call 69; (with_reducible refine (CM.out _ D1.out).mono ?_); rintro e w2 ⟨rfl, hb2⟩; have B2 := Lib.hid (bel2 D1.out hb2); have CB := SC.out w2 B2.out; clear hb2))
  all_goals
    first
      | (have BF : Hid (Below w1.heap.size w1 (w2.alloc (.cells #[.int .i64 T, .int .i64 k, .int .i64 i, .int .u32 g, .int .i64 y, .int .i64 z] 70))) := bel_alloc B2.out _
         have NF : Hid (Bk (w2.alloc (.cells #[.int .i64 T, .int .i64 k, .int .i64 i, .int .u32 g, .int .i64 y, .int .i64 z] 70)) w2.heap.size 70 #[.int .i64 T, .int .i64 k, .int .i64 i, .int .u32 g, .int .i64 y, .int .i64 z]) := Bk.new w2 _ _
         obtain ⟨G, hG⟩ : ∃ G, w2.heap.size = G := ⟨_, rfl⟩
         rw [hG] at NF ⊢
         generalize w2.alloc (.cells #[.int .i64 T, .int .i64 k, .int .i64 i, .int .u32 g, .int .i64 y, .int .i64 z] 70) = w3 at *
         have GLT : Hid (w1.heap.size ≤ G) := by rw [← hG]; exact B2.out.size
         clear hG)
      | (have BF : Hid (Below w1.heap.size w1 ((((((w2.setCell ⟨w1.heap.size, 0, none⟩ (.int .i64 T)).setCell ⟨w1.heap.size, 1, none⟩ (.int .i64 k)).setCell ⟨w1.heap.size, 2, none⟩ (.int .i64 i)).setCell ⟨w1.heap.size, 3, none⟩ (.int .u32 g)).setCell ⟨w1.heap.size, 4, none⟩ (.int .i64 y)).setCell ⟨w1.heap.size, 5, none⟩ (.int .i64 z))) := PB.out w2 _ _ _ _ _ _ B2.out
         have NF : Hid (Bk ((((((w2.setCell ⟨w1.heap.size, 0, none⟩ (.int .i64 T)).setCell ⟨w1.heap.size, 1, none⟩ (.int .i64 k)).setCell ⟨w1.heap.size, 2, none⟩ (.int .i64 i)).setCell ⟨w1.heap.size, 3, none⟩ (.int .u32 g)).setCell ⟨w1.heap.size, 4, none⟩ (.int .i64 y)).setCell ⟨w1.heap.size, 5, none⟩ (.int .i64 z)) w1.heap.size 70 #[.int .i64 T, .int .i64 k, .int .i64 i, .int .u32 g, .int .i64 y, .int .i64 z]) := put6_bk HX.out _ _ _ _ _ _
         clear x0 x1 x2 x3 x4 x5 f0 f1 f2 f3 f4 f5
         generalize (((((w2.setCell ⟨w1.heap.size, 0, none⟩ (.int .i64 T)).setCell ⟨w1.heap.size, 1, none⟩ (.int .i64 k)).setCell ⟨w1.heap.size, 2, none⟩ (.int .i64 i)).setCell ⟨w1.heap.size, 3, none⟩ (.int .u32 g)).setCell ⟨w1.heap.size, 4, none⟩ (.int .i64 y)).setCell ⟨w1.heap.size, 5, none⟩ (.int .i64 z) = w3 at *
         obtain ⟨G, hG⟩ : ∃ G, w1.heap.size = G := ⟨_, rfl⟩
         rw [hG] at NF ⊢
         have GLT : Hid (w1.heap.size ≤ G) := by rw [hG]; exact Nat.le_refl _
         clear hG)
    clear CB o0 o1 o2 h5
    have H3 := Lib.hid (H.out.below BF.out).1
    have M3 := Lib.hid (N0.out.below BF.out)
    have E3 := Lib.hid (HE.out.below BF.out)
    obtain ⟨x0, x1, x2, x3, x4, x5⟩ := cells6 NF.out
    have CK : Hid (Calls Tryz.prog 48 #[.agg #[.int .i64 T, .int .i64 k, .int .i64 i, .int .u32 g, .int .i64 y, .int .i64 z]] w3 fun e w' => e = .returned (.int .i64 (LG.chkE ⟨T, k, i, g, y, z⟩)) ∧ Below w3.heap.size w3 w') := LG.chk_att ⟨T, k, i, g, y, z⟩ (by have := att_rg HH.out.ok HR.out HY.out; rwa [AT.out] at this) w3 E3.out
    have ee := attE (k := k) (i := i) (y := y) HH.out.ok HR.out.g1
    rw [if_pos HP.out, AT.out] at ee
    rw [ee] at CK
    clear ee
    go_wp2_with fail
    refine CK.out.mono ?_
    rintro e w4 ⟨rfl, hb4⟩
    have B4 := Lib.hid (bel2 BF.out hb4)
    have H4 := Lib.hid (H3.out.below hb4).1
    have E4 := Lib.hid (E3.out.below hb4)
    have M4 := Lib.hid (M3.out.below hb4)
    have N4 := Lib.hid (NF.out.below hb4)
    clear hb4 x0 x1 x2 x3 x4 x5 CK
    obtain ⟨o0, o1, o2⟩ := LS.cells3 M4.out
    go_wp2_with fail
    refine (whas_ok A W k i g true w4 H4.out ⟨fun _ => HX2.out, fun _ => rfl⟩).mono ?_
    rintro e w5 ⟨rfl, hb5⟩
    have B5 := Lib.hid (bel2 B4.out hb5)
    have H5 := Lib.hid (H4.out.below hb5).1
    have E5 := Lib.hid (E4.out.below hb5)
    have M5 := Lib.hid (M4.out.below hb5)
    have N5 := Lib.hid (N4.out.below hb5)
    clear hb5 o0 o1 o2
    go_wp2_with fail
    have D5 := Lib.hid (bel_drew (Below.refl w5.heap.size w5))
    have H6 := Lib.hid (H5.out.below D5.out).1
    have M6 := Lib.hid (M5.out.below D5.out)
    have N6 := Lib.hid (N5.out.below D5.out)
    have B6 := Lib.hid (HB0.out.trans ((bel2 B5.out D5.out).mono HB0.out.size))
    have p4 := H6.out.p4
    unfold ptr at p4
    obtain ⟨x0, x1, x2, x3, x4, x5⟩ := cells6 N6.out
    have GL : Hid (¬ WFoot w5.drew A G) := fun x => by
      have q1 := HH.out.foot_lt (((HH.out.below B6.out).2 _).1 x)
      have q2 := GLT.out
      have q3 := LT.out
      omega
    have BL : Hid (¬ WFoot w5.drew A w.heap.size) := fun x => by
      have q1 := HH.out.foot_lt (((HH.out.below B6.out).2 _).1 x)
      omega
    have AD : Hid (Calls Tryz.prog 70 #[.pointer (some ⟨A.l, 0, none⟩), .agg #[.int .i64 T, .int .i64 k, .int .i64 i, .int .u32 g, .int .i64 y, .int .i64 z]] w5.drew fun e w' => e = .returned (.int .i64 0) ∧ (WW w' A { W with B := LG.addL W.B (W.att k i g y) } ∧ WStep A w w') ∧ (w'.cell? ⟨A.p, 4, none⟩ = some (.pointer (some ⟨A.l, 0, none⟩)) ∧ w'.cell? ⟨G, 0, none⟩ = some (.int .i64 T) ∧ w'.cell? ⟨G, 1, none⟩ = some (.int .i64 k) ∧ w'.cell? ⟨G, 2, none⟩ = some (.int .i64 i) ∧ w'.cell? ⟨G, 3, none⟩ = some (.int .u32 g) ∧ w'.cell? ⟨G, 4, none⟩ = some (.int .i64 y) ∧ w'.cell? ⟨G, 5, none⟩ = some (.int .i64 z)) ∧ Bk w' G 70 #[.int .i64 T, .int .i64 k, .int .i64 i, .int .u32 g, .int .i64 y, .int .i64 z] ∧ Bk w' w.heap.size 25 #[.int .i64 k, .int .i64 i, .int .u32 g] ∧ ¬ WFoot w' A G ∧ ¬ WFoot w' A w.heap.size) := by
      have hrg := att_rg (k := k) (i := i) (g := g) HH.out.ok HR.out HY.out
      have hadd := LG.add_ok A.l A.lb A.lo W.B (W.att k i g y) w5.drew H6.out.hL hrg (E5.out.below D5.out)
      rw [AT.out] at hadd ⊢
      refine hadd.mono ?_
      rintro e w' ⟨rfl, q1, q2, q3⟩
      have hok : Wd.Ok { W with B := LG.addL W.B ⟨T, k, i, g, y, z⟩ } := by
        have := HOK.out
        rwa [AT.out] at this
      obtain ⟨y1, y2⟩ := H6.out.stepL q2 q1 q3 hok
      have g6 := N6.out.kept y2.k GL.out
      have m6 := M6.out.kept y2.k BL.out
      refine ⟨by have := HAE.out; rw [AT.out] at this; rw [this], ⟨y1, (HH.out.quiet B6.out).trans y2⟩, ⟨y1.p4, cells6 g6⟩, g6, m6, fun x => by rcases y2.g _ x with u | u; exact GL.out u; have := N6.out.lt; omega, fun x => by rcases y2.g _ x with u | u; exact BL.out u; have := M6.out.lt; omega⟩
    go_region_held3 (fun W => W.cell? ⟨A.p, 4, none⟩ = some (.pointer (some ⟨A.l, 0, none⟩)) ∧ W.cell? ⟨G, 0, none⟩ = some (.int .i64 T) ∧ W.cell? ⟨G, 1, none⟩ = some (.int .i64 k) ∧ W.cell? ⟨G, 2, none⟩ = some (.int .i64 i) ∧ W.cell? ⟨G, 3, none⟩ = some (.int .u32 g) ∧ W.cell? ⟨G, 4, none⟩ = some (.int .i64 y) ∧ W.cell? ⟨G, 5, none⟩ = some (.int .i64 z)) (first | (with_reducible exact CC) | exact ⟨p4, x0, x1, x2, x3, x4, x5⟩) (first
      | (go_at_call 70; refine AD.out.mono ?_; rintro e w7 ⟨rfl, hst, CC, hg7, hm7, hu7, hv7⟩; have U7 := Lib.hid hu7; have V7 := Lib.hid hv7; have ST := Lib.hid hst; have G7 := Lib.hid hg7; have M7 := Lib.hid hm7; clear hst hg7 hm7 hu7 hv7))
    all_goals
      rw [HAL.out] at ST
      have NX : Hid (Calls Tryz.prog 64 #[.pointer (some ⟨A.s, 0, none⟩)] w7 fun e w' => e = .returned (.int .i64 (W.L.headD 1)) ∧ (WW w' A (W.tried k i g y) ∧ WStep A w w') ∧ Bk w' G 70 #[.int .i64 T, .int .i64 k, .int .i64 i, .int .u32 g, .int .i64 y, .int .i64 z] ∧ Bk w' w.heap.size 25 #[.int .i64 k, .int .i64 i, .int .u32 g] ∧ ¬ WFoot w' A w.heap.size ∧ ¬ WFoot w' A G) := by
        obtain ⟨s1, s2⟩ := ST.out
        refine (AN.next_at A.s W.L w7 s1.hS).mono ?_
        rintro e w' ⟨rfl, q1, q2, q3⟩
        obtain ⟨y1, y2⟩ := s1.stepS q2 q1 (fun P _ hP => q3.out P hP) HTR.out
        exact ⟨rfl, ⟨y1, s2.trans y2⟩, G7.out.kept y2.k U7.out, M7.out.kept y2.k V7.out, fun x => by rcases y2.g _ x with u | u; exact V7.out u; have := M7.out.lt; omega, fun x => by rcases y2.g _ x with u | u; exact U7.out u; have := G7.out.lt; omega⟩
      have hs3 := ST.out.1.p3
      have hb0 := ST.out.1.c0
      unfold ptr at hs3 hb0
      clear x0 x1 x2 x3 x4 x5 p4 CC
      go_wp2_with fail
      have hL : W.L.headD 1 = z := HZZ.out
      rw [hL] at NX
      clear hL
      refine NX.out.mono ?_
      rintro e w8 ⟨rfl, hst, hg8, hm8, hv8, hu8⟩
      have U8 := Lib.hid hu8
      have ST8 := Lib.hid hst
      have M8 := Lib.hid hm8
      have G8 := Lib.hid hg8
      have V8 := Lib.hid hv8
      obtain ⟨x0, x1, x2, x3, x4, x5⟩ := cells6 hg8
      clear hst hg8 hm8 hv8 hu8 hs3 hb0 x0 x1 x2 x3 x4
      have hzn : (z == 1) = false := beq_eq_false_iff_ne.2 (by rw [← HZZ.out]; exact HZ1.out)
      go_wp2
      refine bodyPost_ret (v := .tuple #[.int .i64 z, .int .i64 0]) (by simp [results, Tryz.results18, go_sem]) rfl ⟨by rw [HZZ.out], ST8.out⟩
end Go.Proofs.YtpinmiplefidpaaGreatDoor
