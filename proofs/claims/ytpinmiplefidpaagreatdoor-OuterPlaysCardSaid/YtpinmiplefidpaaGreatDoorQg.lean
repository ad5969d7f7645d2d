/- The document's world: Release. -/
import Derived.Test.YtpinmiplefidpaaGreatDoorQf
import Derived.Test.YtpinmiplefidpaaGreatDoorOz
import Derived.Test.YtpinmiplefidpaaGreatDoorOs
import Derived.Deep.RegionHeld3
namespace Go.Proofs.YtpinmiplefidpaaGreatDoor
open Go.RowKit

theorem AcqV.quiet {x : Rx} {W : Wd} {w w' : World} (h : RW w x W) (b : Below w.heap.size w w') : AcqV x W w w' := ⟨x, (h.below b).1, h.quiet b⟩
set_option maxHeartbeats 2000000 in
theorem rrel_arg (x : Rx) (W : Wd) (k i g y : Int) (w : World) (h : RW w x W) (hr : RgO k i g) (_hy : I64 y) (hn : ¬ (Poss k i g ∧ 1 ≤ y ∧ y ≤ 3)) :
    Calls Tryz.prog 19 #[ptr x.r, .agg #[.int .i64 k, .int .i64 i, .int .u32 g], .int .i64 y] w fun e w' => e = .returned (.tuple #[.int .i64 0, .int .i64 2]) ∧ Hid (AcqV x W w w') := by
  have hB := Bk.new w 25 #[.int .i64 k, .int .i64 i, .int .u32 g]
  have hb := bel_new w (.cells #[.int .i64 k, .int .i64 i, .int .u32 g] 25)
  obtain ⟨a0, a1, a2⟩ := LS.cells3 hB
  have H0 := Lib.hid h
  have H := Lib.hid (h.below hb).1
  have N := Lib.hid hB
  have HB := Lib.hid hb
  have CK := Lib.hid (rck_is k i g hr)
  have c0 := H.out.c0
  clear h hB hb
  unfold ptr
  by_cases hp : Poss k i g
  · rw [if_pos hp] at CK
    by_cases h1 : 1 ≤ y
    · have h3 : 3 < y := Int.not_le.1 fun c => hn ⟨hp, h1, c⟩
      clear hn hp hr
      go_enter Tryz.func19, Tryz.ntmps19
      go_wp2_with fail
      generalize w.alloc (.cells #[.int .i64 k, .int .i64 i, .int .u32 g] 25) = w1 at *
      refine (rv_yes _ _ c0).mono ?_
      rintro e w' ⟨rfl, rfl⟩
      go_wp2_with fail
      refine (CK.out _).mono ?_
      rintro e w2 ⟨rfl, hb2⟩
      have B2 := Lib.hid (bel2 HB.out hb2)
      clear hb2
      go_wp2
      exact bodyPost_ret (v := .tuple #[.int .i64 0, .int .i64 2]) (by simp [results, Tryz.results19, go_sem]) rfl ⟨rfl, AcqV.quiet H0.out B2.out⟩
    · have h3 : y < 1 := Int.not_le.1 h1
      clear hn hp hr h1
      go_enter Tryz.func19, Tryz.ntmps19
      go_wp2_with fail
      generalize w.alloc (.cells #[.int .i64 k, .int .i64 i, .int .u32 g] 25) = w1 at *
      refine (rv_yes _ _ c0).mono ?_
      rintro e w' ⟨rfl, rfl⟩
      go_wp2_with fail
      refine (CK.out _).mono ?_
      rintro e w2 ⟨rfl, hb2⟩
      have B2 := Lib.hid (bel2 HB.out hb2)
      clear hb2
      go_wp2
      exact bodyPost_ret (v := .tuple #[.int .i64 0, .int .i64 2]) (by simp [results, Tryz.results19, go_sem]) rfl ⟨rfl, AcqV.quiet H0.out B2.out⟩
  · rw [if_neg hp] at CK
    clear hn hp hr
    go_enter Tryz.func19, Tryz.ntmps19
    go_wp2_with fail
    generalize w.alloc (.cells #[.int .i64 k, .int .i64 i, .int .u32 g] 25) = w1 at *
    refine (rv_yes _ _ c0).mono ?_
    rintro e w' ⟨rfl, rfl⟩
    go_wp2_with fail
    refine (CK.out _).mono ?_
    rintro e w2 ⟨rfl, hb2⟩
    have B2 := Lib.hid (bel2 HB.out hb2)
    clear hb2
    go_wp2
    exact bodyPost_ret (v := .tuple #[.int .i64 0, .int .i64 2]) (by simp [results, Tryz.results19, go_sem]) rfl ⟨rfl, AcqV.quiet H0.out B2.out⟩
set_option maxHeartbeats 2000000 in
theorem rrel_none (x : Rx) (W : Wd) (k i g y : Int) (w : World) (h : RW w x W) (hr : RgO k i g) (_hy : I64 y) (hp : Poss k i g) (hw : 1 ≤ y ∧ y ≤ 3) (hh : ¬ W.Here k i g) :
    Calls Tryz.prog 19 #[ptr x.r, .agg #[.int .i64 k, .int .i64 i, .int .u32 g], .int .i64 y] w fun e w' => e = .returned (.tuple #[.int .i64 0, .int .i64 5]) ∧ Hid (AcqV x W w w') := by
  have hB := Bk.new w 25 #[.int .i64 k, .int .i64 i, .int .u32 g]
  have hb := bel_new w (.cells #[.int .i64 k, .int .i64 i, .int .u32 g] 25)
  obtain ⟨a0, a1, a2⟩ := LS.cells3 hB
  have H0 := Lib.hid h
  have H := Lib.hid (h.below hb).1
  have N := Lib.hid hB
  have HB := Lib.hid hb
  have CK := Lib.hid (rck_is k i g hr)
  have c0 := H.out.c0
  clear h hB hb
  unfold ptr
  rw [if_pos hp] at CK
  have HS : Hid (∀ v, RW v x W → Calls Tryz.prog 31 #[.pointer (some ⟨x.r, 0, none⟩), .agg #[.int .i64 k, .int .i64 i, .int .u32 g]] v fun e w' => e = .returned (.bool false) ∧ Below v.heap.size v w') := fun v hv => rhas_ok x W k i g false v hv (by simpa using hh)
  obtain ⟨hw1, hw2⟩ := hw
  clear hp hr hh
  go_enter Tryz.func19, Tryz.ntmps19
  go_wp2_with fail
  generalize w.alloc (.cells #[.int .i64 k, .int .i64 i, .int .u32 g] 25) = w1 at *
  refine (rv_yes _ _ c0).mono ?_
  rintro e w' ⟨rfl, rfl⟩
  go_wp2_with fail
  refine (CK.out _).mono ?_
  rintro e w2 ⟨rfl, hb2⟩
  have B2 := Lib.hid hb2
  clear a0 a1 a2
  obtain ⟨a0, a1, a2⟩ := LS.cells3 (N.out.below hb2)
  clear hb2 CK
  go_wp2_with fail
  refine (HS.out _ (H.out.below B2.out).1).mono ?_
  rintro e w3 ⟨rfl, hb3⟩
  have B3 := Lib.hid (bel2 HB.out (bel2 B2.out hb3))
  clear hb3 HS
  go_wp2
  exact bodyPost_ret (v := .tuple #[.int .i64 0, .int .i64 5]) (by simp [results, Tryz.results19, go_sem]) rfl ⟨rfl, AcqV.quiet H0.out B3.out⟩
set_option maxRecDepth 100000 in
set_option maxHeartbeats 2000000 in
theorem rrel_full (x : Rx) (W : Wd) (k i g y : Int) (w : World) (h : RW w x W) (hr : RgO k i g) (_hy : I64 y) (hp : Poss k i g) (hw : 1 ≤ y ∧ y ≤ 3) (hh : W.Here k i g) (hl : 10000 ≤ W.B.length) :
    Calls Tryz.prog 19 #[ptr x.r, .agg #[.int .i64 k, .int .i64 i, .int .u32 g], .int .i64 y] w fun e w' => e = .returned (.tuple #[.int .i64 0, .int .i64 4]) ∧ Hid (AcqV x W w w') := by
  have hB := Bk.new w 25 #[.int .i64 k, .int .i64 i, .int .u32 g]
  have hb := bel_new w (.cells #[.int .i64 k, .int .i64 i, .int .u32 g] 25)
  obtain ⟨a0, a1, a2⟩ := LS.cells3 hB
  have H0 := Lib.hid h
  have H := Lib.hid (h.below hb).1
  have N := Lib.hid hB
  have HB := Lib.hid hb
  have CK := Lib.hid (rck_is k i g hr)
  have c0 := H.out.c0
  clear h hB hb
  unfold ptr
  rw [if_pos hp] at CK
  have HS : Hid (∀ v, RW v x W → Calls Tryz.prog 31 #[.pointer (some ⟨x.r, 0, none⟩), .agg #[.int .i64 k, .int .i64 i, .int .u32 g]] v fun e w' => e = .returned (.bool true) ∧ Below v.heap.size v w') := fun v hv => rhas_ok x W k i g true v hv (by simpa using hh)
  obtain ⟨hw1, hw2⟩ := hw
  have LN := Lib.hid (fun v (hv : RW v x W) => LG.rlen_ok x.g x.lo x.v W.B v hv.hL)
  have hlb := H0.out.ok.lB
  generalize W.B.length = nB at *
  clear hp hr hh
  go_enter Tryz.func19, Tryz.ntmps19
  go_wp2_with fail
  generalize w.alloc (.cells #[.int .i64 k, .int .i64 i, .int .u32 g] 25) = w1 at *
  refine (rv_yes _ _ c0).mono ?_
  rintro e w' ⟨rfl, rfl⟩
  go_wp2_with fail
  refine (CK.out _).mono ?_
  rintro e w2 ⟨rfl, hb2⟩
  have B2 := Lib.hid hb2
  clear a0 a1 a2
  obtain ⟨a0, a1, a2⟩ := LS.cells3 (N.out.below hb2)
  clear hb2 CK
  go_wp2_with fail
  refine (HS.out _ (H.out.below B2.out).1).mono ?_
  rintro e w3 ⟨rfl, hb3⟩
  have B3 := Lib.hid (bel2 B2.out hb3)
  have H3 := Lib.hid (H.out.below B3.out).1
  have c5 := H3.out.c5
  unfold ptr at c5
  clear hb3 HS a0 a1 a2
  go_wp2_with fail
  refine (LN.out _ H3.out).mono ?_
  rintro e w4 ⟨rfl, hb4⟩
  have B4 := Lib.hid (bel2 HB.out (bel2 B3.out hb4))
  clear hb4 LN c5
  go_wp2
  exact bodyPost_ret (v := .tuple #[.int .i64 0, .int .i64 4]) (by simp [results, Tryz.results19, go_sem]) rfl ⟨rfl, AcqV.quiet H0.out B4.out⟩
/-- Behind the attempt: the world, the box of the resource. -/
structure Trd (x : Rx) (W : Wd) (b : Nat) (cs : Array Value) (w w' : World) (y : Rx) : Prop where
  r : RW w' y W
  q : RStep x y w w'
  n : Bk w' b 25 cs
theorem Trd.below {x y : Rx} {W : Wd} {b : Nat} {cs : Array Value} {w w' w2 : World} (h : Trd x W b cs w w' y) (k : Below w'.heap.size w' w2) : Trd x W b cs w w2 y := ⟨(h.r.below k).1, h.q.trans (h.r.quiet k), h.n.below k⟩
theorem fin7 {x z : Rx} {Y : Wd} {k i g T : Int} {w w7 : World} {b : Nat} (hr : z.r = x.r) (hg : z.g = x.g) (h : Trd x Y b #[.int .i64 k, .int .i64 i, .int .u32 g] w w7 z) (hT : Y.T = T) :
    w7.cell? ⟨x.r, 5, none⟩ = some (.pointer (some ⟨x.g, 0, none⟩)) ∧ w7.cell? ⟨x.r, 6, none⟩ = some (.int .i64 T) ∧ w7.cell? ⟨b, 0, none⟩ = some (.int .i64 k) ∧ w7.cell? ⟨b, 1, none⟩ = some (.int .i64 i) ∧ w7.cell? ⟨b, 2, none⟩ = some (.int .u32 g) := by
  have c5 := h.r.c5
  have c6 := h.r.c6
  unfold ptr at c5
  rw [hr, hg] at c5
  rw [hr, hT] at c6
  exact ⟨c5, c6, LS.cells3 h.n⟩
theorem fin1 {x z : Rx} {Y : Wd} {k i g : Int} {w w7 : World} {b q : Nat} (hr : z.r = x.r) (hg : z.f = q) (h : Trd x Y b #[.int .i64 k, .int .i64 i, .int .u32 g] w w7 z) :
    w7.cell? ⟨x.r, 1, none⟩ = some (.pointer (some ⟨q, 0, none⟩)) ∧ w7.cell? ⟨b, 0, none⟩ = some (.int .i64 k) ∧ w7.cell? ⟨b, 1, none⟩ = some (.int .i64 i) ∧ w7.cell? ⟨b, 2, none⟩ = some (.int .u32 g) := by
  have c5 := h.r.c1
  unfold ptr at c5
  rw [hr, hg] at c5
  exact ⟨c5, LS.cells3 h.n⟩
theorem fin2 {x z : Rx} {Y : Wd} {k i g : Int} {w w7 : World} {b q : Nat} (hr : z.r = x.r) (hg : z.p = q) (h : Trd x Y b #[.int .i64 k, .int .i64 i, .int .u32 g] w w7 z) :
    w7.cell? ⟨x.r, 2, none⟩ = some (.pointer (some ⟨q, 0, none⟩)) ∧ w7.cell? ⟨b, 0, none⟩ = some (.int .i64 k) ∧ w7.cell? ⟨b, 1, none⟩ = some (.int .i64 i) ∧ w7.cell? ⟨b, 2, none⟩ = some (.int .u32 g) := by
  have c5 := h.r.c2
  unfold ptr at c5
  rw [hr, hg] at c5
  exact ⟨c5, LS.cells3 h.n⟩
theorem fin3 {x z : Rx} {Y : Wd} {k i g : Int} {w w7 : World} {b q : Nat} (hr : z.r = x.r) (hg : z.q = q) (h : Trd x Y b #[.int .i64 k, .int .i64 i, .int .u32 g] w w7 z) :
    w7.cell? ⟨x.r, 3, none⟩ = some (.pointer (some ⟨q, 0, none⟩)) ∧ w7.cell? ⟨b, 0, none⟩ = some (.int .i64 k) ∧ w7.cell? ⟨b, 1, none⟩ = some (.int .i64 i) ∧ w7.cell? ⟨b, 2, none⟩ = some (.int .u32 g) := by
  have c5 := h.r.c3
  unfold ptr at c5
  rw [hr, hg] at c5
  exact ⟨c5, LS.cells3 h.n⟩
set_option maxRecDepth 100000 in
set_option maxHeartbeats 8000000 in
theorem rrel_go (x : Rx) (W : Wd) (k i g y : Int) (w : World) (h : RW w x W) (hr : RgO k i g) (hy : I64 y) (hp : Poss k i g) (hw : 1 ≤ y ∧ y ≤ 3) (hh : W.Here k i g) (hl : W.B.length < 10000) :
    Calls Tryz.prog 19 #[ptr x.r, .agg #[.int .i64 k, .int .i64 i, .int .u32 g], .int .i64 y] w fun e w' => e = .returned (.tuple #[.int .i64 W.h, .int .i64 0]) ∧ Hid (AcqV x (W.rel k i g y) w w') := by
  have hB := Bk.new w 25 #[.int .i64 k, .int .i64 i, .int .u32 g]
  have hb := bel_new w (.cells #[.int .i64 k, .int .i64 i, .int .u32 g] 25)
  obtain ⟨a0, a1, a2⟩ := LS.cells3 hB
  have H0 := Lib.hid h
  have H := Lib.hid (h.below hb).1
  have N := Lib.hid hB
  have HB := Lib.hid hb
  have CK := Lib.hid (rck_is k i g hr)
  have c0 := H.out.c0
  clear h hB hb
  unfold ptr
  have hlE : W.lE k i g y = 0 := Wd.lE_ok ⟨hp, hw⟩ hh hl
  rw [if_pos hp] at CK
  have HS : Hid (∀ v, RW v x W → Calls Tryz.prog 31 #[.pointer (some ⟨x.r, 0, none⟩), .agg #[.int .i64 k, .int .i64 i, .int .u32 g]] v fun e w' => e = .returned (.bool true) ∧ Below v.heap.size v w') := fun v hv => rhas_ok x W k i g true v hv (by simpa using hh)
  obtain ⟨hw1, hw2⟩ := hw
  have LN := Lib.hid (fun v (hv : RW v x W) => LG.rlen_ok x.g x.lo x.v W.B v hv.hL)
  have HTR := Lib.hid (H0.out.ok.tried hlE)
  have hAE : LG.addE W.B (W.att k i g y) = 0 := (attA H0.out.ok hp hr.g1 ⟨hw1, hw2⟩).trans (if_neg (by omega))
  have hAL : LG.addL W.B (W.att k i g y) = W.B ++ [W.att k i g y] := by unfold LG.addL; rw [hAE]; rfl
  have AD : Hid (∀ v, Trd x W.next w.heap.size #[.int .i64 k, .int .i64 i, .int .u32 g] w v x → Calls Tryz.prog 73 #[.pointer (some ⟨x.g, 0, none⟩), .agg #[.int .i64 W.T, .int .i64 k, .int .i64 i, .int .u32 g, .int .i64 y, .int .i64 W.h]] v fun e w' => e = .returned (.int .i64 0) ∧ Hid (∃ z, z.r = x.r ∧ z.g = x.g ∧ Trd x (W.tried k i g y) w.heap.size #[.int .i64 k, .int .i64 i, .int .u32 g] w w' z)) := fun v hv => by
    refine (LG.radd_ok x.g x.lo x.v W.B (W.att k i g y) v hv.r.hL (att_rg H0.out.ok hr hy) (Nat.le_trans hv.r.hL.lb (Nat.le_of_lt hv.r.hL.hb.lt))).mono ?_
    rintro e w' ⟨rfl, v', h1, h2, h3⟩
    rw [hAL] at h1
    obtain ⟨q1, q2⟩ := hv.r.stepL h2 h1 h3 HTR.out
    exact ⟨by rw [hAE], { x with v := v' }, rfl, rfl, q1, hv.q.trans q2, hv.n.kept q2.k (hv.r.off hv.n)⟩
  have NX : Hid (∀ v, Trd x W w.heap.size #[.int .i64 k, .int .i64 i, .int .u32 g] w v x → Calls Tryz.prog 68 #[.pointer (some ⟨x.s, 0, none⟩)] v fun e w' => e = .returned (.int .i64 W.h) ∧ Hid (Trd x W.next w.heap.size #[.int .i64 k, .int .i64 i, .int .u32 g] w w' x)) := fun v hv => by
    refine (AN.rnext_at x.s W.L v hv.r.hS).mono ?_
    rintro e w' ⟨rfl, h1, h2, h3⟩
    have hst := hv.r.stepAt h2 h1 (fun P _ hP => h3.out P hP) H0.out.ok.next
    exact ⟨rfl, hst.1, hv.q.trans hst.2, hv.n.kept hst.2.k (hv.r.off hv.n)⟩
  have HR := Lib.hid hr
  have T0 : Hid (∀ v, Below (w.alloc (.cells #[.int .i64 k, .int .i64 i, .int .u32 g] 25)).heap.size (w.alloc (.cells #[.int .i64 k, .int .i64 i, .int .u32 g] 25)) v → Trd x W w.heap.size #[.int .i64 k, .int .i64 i, .int .u32 g] w v x) := fun v hv => ⟨(H.out.below hv).1, H0.out.quiet (bel2 HB.out hv), N.out.below hv⟩
  have HBK := Lib.hid (fun k' i' g' => HTR.out.back k' i' g')
  have HYT : Hid ((W.tried k i g y).T = W.T) := rfl
  obtain ⟨Y, hYe⟩ : ∃ Y, W.tried k i g y = Y := ⟨_, rfl⟩
  rw [hYe] at HTR HBK HYT AD
  generalize hT : W.T = T at AD HYT
  have HT := Lib.hid hT
  obtain ⟨ans, hans⟩ : ∃ z, W.h = z := ⟨_, rfl⟩
  have HRL : Hid (W.rel k i g y = if ans = 1 then Y.back k i g else Y) := by
    unfold Hid Wd.rel
    rw [if_pos hlE, hans, hYe]
  have HH := Lib.hid hans
  rw [hans] at AD NX
  have hlb := H0.out.ok.lB
  generalize W.B.length = nB at *
  have HPK := Lib.hid (And.intro hp.1 hp.2.1)
  clear hp hr hh hlE hAE hAL hans hT hYe
  go_enter Tryz.func19, Tryz.ntmps19
  go_wp2_with fail
  generalize w.alloc (.cells #[.int .i64 k, .int .i64 i, .int .u32 g] 25) = w1 at *
  refine (rv_yes _ _ c0).mono ?_
  rintro e w' ⟨rfl, rfl⟩
  go_wp2_with fail
  refine (CK.out _).mono ?_
  rintro e w2 ⟨rfl, hb2⟩
  have B2 := Lib.hid hb2
  clear a0 a1 a2
  obtain ⟨a0, a1, a2⟩ := LS.cells3 (N.out.below hb2)
  clear hb2 CK
  go_wp2_with fail
  refine (HS.out _ (H.out.below B2.out).1).mono ?_
  rintro e w3 ⟨rfl, hb3⟩
  have B3 := Lib.hid (bel2 B2.out hb3)
  have H3 := Lib.hid (H.out.below B3.out).1
  have c5 := H3.out.c5
  unfold ptr at c5
  clear hb3 HS a0 a1 a2
  go_wp2_with fail
  refine (LN.out _ H3.out).mono ?_
  rintro e w4 ⟨rfl, hb4⟩
  have B4 := Lib.hid (bel2 B3.out hb4)
  have T4 := Lib.hid (T0.out _ B4.out)
  have c4 := T4.out.r.c4
  unfold ptr at c4
  clear hb4 LN c5 T0
  go_wp2_with fail
  refine (NX.out _ T4.out).mono ?_
  rintro e w5 ⟨rfl, hN5⟩
  have T6 := Lib.hid (hN5.out.below (bel_drew (Below.refl w5.heap.size w5)))
  have c5 := T6.out.r.c5
  have c6 := T6.out.r.c6
  unfold ptr at c5
  have e6 : W.next.T = T := HT.out
  rw [e6] at c6
  obtain ⟨a0, a1, a2⟩ := LS.cells3 T6.out.n
  clear c4 T4 NX hN5 e6 c0
  go_upto_region 10 with fail
  go_region_held3 (fun V => V.cell? ⟨x.r, 5, none⟩ = some (.pointer (some ⟨x.g, 0, none⟩)) ∧ V.cell? ⟨x.r, 6, none⟩ = some (.int .i64 T) ∧ V.cell? ⟨w.heap.size, 0, none⟩ = some (.int .i64 k) ∧ V.cell? ⟨w.heap.size, 1, none⟩ = some (.int .i64 i) ∧ V.cell? ⟨w.heap.size, 2, none⟩ = some (.int .u32 g)) (first | (with_reducible exact hz8) | (with_reducible exact ⟨c5, c6, a0, a1, a2⟩)) (first
    | (go_at_call 73; refine (AD.out _ T6.out).mono ?_; rintro e w7 ⟨rfl, hv7⟩; obtain ⟨z, zr, zg, hz⟩ := hv7.out; have T7 := Lib.hid hz; have HZ := Lib.hid zr; have hz8 := fin7 HZ.out zg T7.out HYT.out; clear hv7 hz zr zg))
  all_goals
    clear c5 c6 a0 a1 a2 T6 AD
    try clear hz8
    by_cases c1 : ans = 1
    · subst c1
      have hk : k = 1 ∨ k = 2 ∨ k = 3 := by have := HPK.out; omega
      obtain rfl | rfl | rfl := hk
      · have CL : Hid (∀ v z, Trd x Y w.heap.size #[.int .i64 1, .int .i64 i, .int .u32 g] w v z → Calls Tryz.prog 74 #[.pointer (some ⟨z.f, 0, none⟩), .agg #[.int .i64 1, .int .i64 i, .int .u32 g]] v fun e w' => ∃ E, e = .returned (.int .i64 E) ∧ Hid (∃ z', z'.r = z.r ∧ z'.f = z.f ∧ Trd x (Y.back 1 i g) w.heap.size #[.int .i64 1, .int .i64 i, .int .u32 g] w w' z')) := fun v z hv => by
          refine (FD.dclose_ok z.f z.fd Y.F 1 i g HR.out v hv.r.hF).mono ?_
          rintro e w' ⟨rfl, h1, h2⟩
          obtain ⟨q1, q2⟩ := hv.r.stepF (h2.mono fun _ _ e => .inr e) h1 (by have := HBK.out 1 i g; rwa [Wd.back_file] at this)
          rw [Wd.back_file]
          exact ⟨_, rfl, z, rfl, rfl, q1, hv.q.trans q2, hv.n.kept q2.k (hv.r.off hv.n)⟩
        have hzr := HZ.out
        have T8 := Lib.hid (T7.out.below (bel_drew (Below.refl w7.heap.size w7)))
        obtain ⟨a0, a1, a2⟩ := LS.cells3 T7.out.n
        obtain ⟨b0, b1, b2⟩ := LS.cells3 T8.out.n
        have c1 := T8.out.r.c1
        unfold ptr at c1
        rw [hzr] at c1
        have hst : W.rel 1 i g y = Y.back 1 i g := HRL.out
        have HST := Lib.hid hst
        clear hzr hst
        go_upto_region 16 with fail
        go_region_held3 (fun V => V.cell? ⟨x.r, 1, none⟩ = some (.pointer (some ⟨z.f, 0, none⟩)) ∧ V.cell? ⟨w.heap.size, 0, none⟩ = some (.int .i64 1) ∧ V.cell? ⟨w.heap.size, 1, none⟩ = some (.int .i64 i) ∧ V.cell? ⟨w.heap.size, 2, none⟩ = some (.int .u32 g)) (first | (with_reducible exact hz9) | (with_reducible exact ⟨c1, b0, b1, b2⟩)) (first
          | (go_at_call 74; refine (CL.out _ _ T8.out).mono ?_; rintro e w8 ⟨E, rfl, hv8⟩; obtain ⟨z', zr', zf', hz'⟩ := hv8.out; have T9 := Lib.hid hz'; have hz9 := fin1 (zr'.trans HZ.out) zf' T9.out; clear hv8 hz' zr' zf'))
        all_goals
          go_wp2
          exact bodyPost_ret (v := .tuple #[.int .i64 1, .int .i64 0]) (by simp [results, Tryz.results19, go_sem]) rfl ⟨by rw [HH.out], by rw [HST.out]; exact ⟨_, T9.out.r, T9.out.q⟩⟩
      · have CL : Hid (∀ v z, Trd x Y w.heap.size #[.int .i64 2, .int .i64 i, .int .u32 g] w v z → Calls Tryz.prog 75 #[.pointer (some ⟨z.p, 0, none⟩), .agg #[.int .i64 2, .int .i64 i, .int .u32 g]] v fun e w' => ∃ E, e = .returned (.int .i64 E) ∧ Hid (∃ z', z'.r = z.r ∧ z'.p = z.p ∧ Trd x (Y.back 2 i g) w.heap.size #[.int .i64 2, .int .i64 i, .int .u32 g] w w' z')) := fun v z hv => by
          refine (BF.dunpin_ok z.p z.pd Y.P 2 i g v hv.r.hP).mono ?_
          rintro e w' ⟨rfl, hq⟩
          obtain ⟨d', h0, h1, h2⟩ := hq.out
          obtain ⟨q1, q2⟩ := hv.r.stepP h2 h0 h1 (by have := HBK.out 2 i g; rwa [Wd.back_buffer] at this)
          rw [Wd.back_buffer]
          exact ⟨_, rfl, { z with pd := d' }, rfl, rfl, q1, hv.q.trans q2, hv.n.kept q2.k (hv.r.off hv.n)⟩
        have hzr := HZ.out
        have T8 := Lib.hid (T7.out.below (bel_drew (Below.refl w7.heap.size w7)))
        obtain ⟨a0, a1, a2⟩ := LS.cells3 T7.out.n
        obtain ⟨b0, b1, b2⟩ := LS.cells3 T8.out.n
        have c1 := T8.out.r.c2
        unfold ptr at c1
        rw [hzr] at c1
        have hst : W.rel 2 i g y = Y.back 2 i g := HRL.out
        have HST := Lib.hid hst
        clear hzr hst
        go_upto_region 18 with fail
        go_region_held3 (fun V => V.cell? ⟨x.r, 2, none⟩ = some (.pointer (some ⟨z.p, 0, none⟩)) ∧ V.cell? ⟨w.heap.size, 0, none⟩ = some (.int .i64 2) ∧ V.cell? ⟨w.heap.size, 1, none⟩ = some (.int .i64 i) ∧ V.cell? ⟨w.heap.size, 2, none⟩ = some (.int .u32 g)) (first | (with_reducible exact hz9) | (with_reducible exact ⟨c1, b0, b1, b2⟩)) (first
          | (go_at_call 75; refine (CL.out _ _ T8.out).mono ?_; rintro e w8 ⟨E, rfl, hv8⟩; obtain ⟨z', zr', zf', hz'⟩ := hv8.out; have T9 := Lib.hid hz'; have hz9 := fin2 (zr'.trans HZ.out) zf' T9.out; clear hv8 hz' zr' zf'))
        all_goals
          go_wp2
          exact bodyPost_ret (v := .tuple #[.int .i64 1, .int .i64 0]) (by simp [results, Tryz.results19, go_sem]) rfl ⟨by rw [HH.out], by rw [HST.out]; exact ⟨_, T9.out.r, T9.out.q⟩⟩
      · have CL : Hid (∀ v z, Trd x Y w.heap.size #[.int .i64 3, .int .i64 i, .int .u32 g] w v z → Calls Tryz.prog 76 #[.pointer (some ⟨z.q, 0, none⟩), .agg #[.int .i64 3, .int .i64 i, .int .u32 g]] v fun e w' => ∃ E, e = .returned (.int .i64 E) ∧ Hid (∃ z', z'.r = z.r ∧ z'.q = z.q ∧ Trd x (Y.back 3 i g) w.heap.size #[.int .i64 3, .int .i64 i, .int .u32 g] w w' z')) := fun v z hv => by
          refine (LS.eret_ok z.q z.qc z.qd z.qg Y.D 3 i g HR.out v hv.r.hD).mono ?_
          rintro e w' ⟨rfl, h1, h2⟩
          obtain ⟨q1, q2⟩ := hv.r.stepD h2.out h1.out (by have := HBK.out 3 i g; rwa [Wd.back_lease] at this)
          rw [Wd.back_lease]
          exact ⟨_, rfl, z, rfl, rfl, q1, hv.q.trans q2, hv.n.kept q2.k (hv.r.off hv.n)⟩
        have hzr := HZ.out
        have T8 := Lib.hid (T7.out.below (bel_drew (Below.refl w7.heap.size w7)))
        obtain ⟨a0, a1, a2⟩ := LS.cells3 T7.out.n
        obtain ⟨b0, b1, b2⟩ := LS.cells3 T8.out.n
        have c1 := T8.out.r.c3
        unfold ptr at c1
        rw [hzr] at c1
        have hst : W.rel 3 i g y = Y.back 3 i g := HRL.out
        have HST := Lib.hid hst
        clear hzr hst
        go_upto_region 14 with fail
        go_region_held3 (fun V => V.cell? ⟨x.r, 3, none⟩ = some (.pointer (some ⟨z.q, 0, none⟩)) ∧ V.cell? ⟨w.heap.size, 0, none⟩ = some (.int .i64 3) ∧ V.cell? ⟨w.heap.size, 1, none⟩ = some (.int .i64 i) ∧ V.cell? ⟨w.heap.size, 2, none⟩ = some (.int .u32 g)) (first | (with_reducible exact hz9) | (with_reducible exact ⟨c1, b0, b1, b2⟩)) (first
          | (go_at_call 76; refine (CL.out _ _ T8.out).mono ?_; rintro e w8 ⟨E, rfl, hv8⟩; obtain ⟨z', zr', zf', hz'⟩ := hv8.out; have T9 := Lib.hid hz'; have hz9 := fin3 (zr'.trans HZ.out) zf' T9.out; clear hv8 hz' zr' zf'))
        all_goals
          go_wp2
          exact bodyPost_ret (v := .tuple #[.int .i64 1, .int .i64 0]) (by simp [results, Tryz.results19, go_sem]) rfl ⟨by rw [HH.out], by rw [HST.out]; exact ⟨_, T9.out.r, T9.out.q⟩⟩
    · have d : (ans != 1) = true := by simpa using c1
      have hst : W.rel k i g y = Y := by rw [HRL.out, if_neg c1]
      have HST := Lib.hid hst
      clear c1 hst
      go_wp2
      exact bodyPost_ret (v := .tuple #[.int .i64 ans, .int .i64 0]) (by simp [results, Tryz.results19, go_sem]) rfl ⟨by rw [HH.out], by rw [HST.out]; exact ⟨_, T7.out.r, T7.out.q⟩⟩
/-- Release. -/
theorem rrel_ok (x : Rx) (W : Wd) (k i g y : Int) (w : World) (h : RW w x W) (hr : RgO k i g) (hy : I64 y) :
    Calls Tryz.prog 19 #[ptr x.r, .agg #[.int .i64 k, .int .i64 i, .int .u32 g], .int .i64 y] w fun e w' => e = .returned (.tuple #[.int .i64 (W.lA k i g y), .int .i64 (W.lE k i g y)]) ∧ Hid (AcqV x (W.rel k i g y) w w') := by
  by_cases ha : Poss k i g ∧ 1 ≤ y ∧ y ≤ 3
  · by_cases hh : W.Here k i g
    · by_cases hl : W.B.length < 10000
      · have e1 := Wd.lE_ok ha hh hl
        have e2 : W.lA k i g y = W.h := by unfold Wd.lA; rw [if_pos e1]
        rw [e1, e2]
        exact rrel_go x W k i g y w h hr hy ha.1 ha.2 hh hl
      · have e1 : W.lE k i g y = 4 := by unfold Wd.lE; rw [if_neg (not_not_intro ha), if_neg (not_not_intro hh), if_pos (by omega)]
        have e2 : W.lA k i g y = 0 := by unfold Wd.lA; rw [if_neg (by rw [e1]; decide)]
        rw [e1, e2, Wd.rel_no (by rw [e1]; decide)]
        exact rrel_full x W k i g y w h hr hy ha.1 ha.2 hh (by omega)
    · have e1 := Wd.lE_none ha hh
      have e2 : W.lA k i g y = 0 := by unfold Wd.lA; rw [if_neg (by rw [e1]; decide)]
      rw [e1, e2, Wd.rel_no (by rw [e1]; decide)]
      exact rrel_none x W k i g y w h hr hy ha.1 ha.2 hh
  · have e1 := Wd.lE_arg (W := W) ha
    have e2 : W.lA k i g y = 0 := by unfold Wd.lA; rw [if_neg (by rw [e1]; decide)]
    rw [e1, e2, Wd.rel_no (by rw [e1]; decide)]
    exact rrel_arg x W k i g y w h hr hy ha
end Go.Proofs.YtpinmiplefidpaaGreatDoor
