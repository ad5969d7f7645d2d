/- The contract of Acquire, of leases, and of any kind. -/
import Derived.Test.YtpinmiplefidpaaGreatDoorOra
namespace Go.Proofs.YtpinmiplefidpaaGreatDoor
open Go.RowKit

set_option maxRecDepth 100000 in
set_option maxHeartbeats 4000000 in
theorem acq_lease (A : Ad) (W : Wd) (x : Int) (w : World) (h : WW w A W) (hx : I64 x) :
    Calls Tryz.prog 16 #[ptr A.b, .int .i64 3, .int .i64 x] w fun e w' => e = .returned (.tuple #[.agg #[.int .i64 (W.aK 3 x), .int .i64 (W.aI 3 x), .int .u32 (W.aG 3 x)], .int .i64 (W.aE 3 x)]) ∧ WW w' A (W.acq 3 x) ∧ WStep A w w' := by
  have B0 := bel_new w (.cells #[.int .i64 0, .int .i64 0, .int .u32 0] 25)
  have HB0 := Lib.hid B0
  have n0 := Bk.new w 25 #[.int .i64 0, .int .i64 0, .int .u32 0]
  have HH := Lib.hid h
  have H := Lib.hid (h.below B0).1
  have N0 := Lib.hid n0
  have HX := Lib.hid hx
  have hc := H.out.c0
  clear h B0 n0 hx
  generalize hw1 : w.alloc (.cells #[.int .i64 0, .int .i64 0, .int .u32 0] 25) = w1 at *
  unfold ptr at *
  have LT := Lib.hid (show w.heap.size < w1.heap.size from N0.out.lt)
  have D1 := Lib.hid (bel_drew (Below.refl w1.heap.size w1))
  have TB := Lib.hid (wtable_ok A.p A 3 (vD A.d) w1 rfl H.out.p0 H.out.p1 H.out.p2 rfl)
  have hmt := mD_twin A.d
  have hnl : ∀ (b : Nat) (w : World), (binOp .eql 100 (vD b) .nilIface).run Tryz.prog w = .ok (.bool false) w := fun _ _ => by kernel_rfl
  have hma := mD_acquire
  have hgu : ∀ (b : Nat) (w : World), (eqGuard .eql 100 (.tmp 21) (.const .nilIface) (vD b) .nilIface).run Tryz.prog w = .ok () w := fun _ _ => by kernel_rfl
  have hna : ∀ (b : Nat) (w : World), (nilAhead 375 98 (.agg #[.pointer (some ⟨b, 0, none⟩)]) "estray/outer.acquire").run Tryz.prog w = .ok (some false) w := fun _ _ => by kernel_rfl
  have hmf : ∀ (fn : Fn) (first cap : Array Value) (w : World), (Instr.makeFunc fn first cap).run Tryz.prog w = .ok (.func fn first cap) w := fun _ _ _ _ => rfl
  have DA : Hid (∀ o, Below w1.heap.size w1 (w1.alloc o).drew) := fun o => bel_drew (bel_new w1 _)
  have TW : Hid (∀ W' : World, Below w1.heap.size w1 W' → Calls Tryz.prog 210 #[.agg #[.pointer (some ⟨A.d, 0, none⟩)]] W' fun e w' => ∃ b', e = .returned (vD b') ∧ Hid (LS.DNew W.D W' b' w')) := fun W' hB => twin_desk A.d A.dk A.da W.D W' (H.out.below hB).1.hD
  obtain ⟨K, hK⟩ : ∃ K, (W.D.gK x W.T : Int) = K := ⟨_, rfl⟩
  obtain ⟨I, hI⟩ : ∃ I, (W.D.gI x W.T : Int) = I := ⟨_, rfl⟩
  obtain ⟨G, hG⟩ : ∃ G, (W.D.gG x W.T : Int) = G := ⟨_, rfl⟩
  obtain ⟨E, hE⟩ : ∃ E, W.D.gE x W.T = E := ⟨_, rfl⟩
  have AQ : Hid (∀ (W0 w2 : World) (b' : Nat), LS.DNew W.D W0 b' w2 → w1.heap.size ≤ W0.heap.size → Below w1.heap.size w1 w2 → ∀ W', Below w2.heap.size w2 W' → Calls Tryz.prog 208 #[.agg #[.pointer (some ⟨b', 0, none⟩)], .int .i64 x, .int .i64 W.T] W' fun e w' => e = .returned (.tuple #[.agg #[.int .i64 K, .int .i64 I, .int .u32 G], .int .i64 E]) ∧ Below w1.heap.size w1 w' ∧ ∀ g cs, Bk W' g 25 cs → Bk w' g 25 cs) := by
    intro W0 w2 b' hn hs hb W' hB
    obtain ⟨k', m', q0', q1, _⟩ := hn
    have q0 := q0'.below hB
    refine (acq_desk b' k' m' W.D x W.T W' q0).mono ?_
    rintro e w' ⟨rfl, q3, q2⟩
    rw [hK, hI, hG, hE]
    exact ⟨rfl, (hb.trans (hB.mono hb.size)).trans (q2.below (Nat.le_trans hb.size hB.size) fun g hg => Nat.le_trans hs (q1 g hg)), fun g cs hA => (q0.keep hA q2)⟩
  have hTT : Hid (W.T = W.T) := rfl
  obtain ⟨T, hT⟩ : ∃ T, W.T = T := ⟨_, rfl⟩
  rw [hT] at AQ
  have SC : Hid (∀ W' : World, Below w1.heap.size w1 W' → W'.cell? ⟨A.b, 0, none⟩ = some (.pointer (some ⟨A.p, 0, none⟩)) ∧ W'.cell? ⟨A.p, 5, none⟩ = some (.int .i64 T)) := fun W' hB => ⟨(H.out.below hB).1.c0, by have := (H.out.below hB).1.p5; rwa [hT] at this⟩
  have KK := Lib.hid (And.intro hK (And.intro hI (And.intro hG (And.intro hE hT))))
  clear hK hI hG hE hT
  go_enter Tryz.func16, Tryz.ntmps16
  go_wp2_with (first
    | (go_at_call 62; refine (wvalid_yes _ _ _ hc).mono ?_; rintro e w' ⟨rfl, rfl⟩)
    | (go_at_call 63; refine TB.out.mono ?_; rintro e w' ⟨rfl, rfl⟩))
  unfold vD at *
  go_wp2_with fail
  go_cut [9, 10] from 23 to 40 (fun v9 v10 wx => v10 = .int .i64 E ∧ Hid (Below w1.heap.size w1 wx))
  case first =>
    obtain ⟨c0, c5⟩ := SC.out _ D1.out
    go_region_held3 (fun W => W.cell? ⟨A.b, 0, none⟩ = some (.pointer (some ⟨A.p, 0, none⟩)) ∧ W.cell? ⟨A.p, 5, none⟩ = some (.int .i64 T)) (first
      | (with_reducible exact SC.out _ B3.out) | (with_reducible exact SC.out _ (bel_alloc B3.out _)) | (with_reducible exact SC.out _ (put3_below B3.out (Nat.le_refl _) _ _ _)) | (with_reducible exact SC.out _ (put3_below B3.out B2.out.size _ _ _))
      | (with_reducible exact SC.out _ B2.out) | (with_reducible exact SC.out _ (bel_alloc B2.out _)) | (with_reducible exact SC.out _ (DA.out _)) | exact ⟨c0, c5⟩) (first
      | (go_at_call 210; (with_reducible refine (TW.out _ (DA.out (.cells #[.int .i64 0, .int .i64 0, .int .u32 0] 25))).mono ?_); rintro e w2 ⟨b', rfl, hn⟩; have b2 := (show Below _ _ w2 by obtain ⟨_, _, _, _, h⟩ := hn.out; exact h); have B2 := Lib.hid (bel2 (DA.out (.cells #[.int .i64 0, .int .i64 0, .int .u32 0] 25)) b2); have AQ2 := Lib.hid (AQ.out _ w2 b' hn.out (DA.out (.cells #[.int .i64 0, .int .i64 0, .int .u32 0] 25)).size B2.out); have HX9 := Lib.hid ((show Bk (w1.alloc (.cells #[.int .i64 0, .int .i64 0, .int .u32 0] 25)).drew w1.heap.size 25 #[.int .i64 0, .int .i64 0, .int .u32 0] from Bk.new w1 _ _).below b2); clear hn b2)
      | (go_at_call 210; (with_reducible refine (TW.out _ D1.out).mono ?_); rintro e w2 ⟨b', rfl, hn⟩; have b2 := (show Below _ _ w2 by obtain ⟨_, _, _, _, h⟩ := hn.out; exact h); have B2 := Lib.hid (bel2 D1.out b2); have AQ2 := Lib.hid (AQ.out _ w2 b' hn.out D1.out.size B2.out); clear hn b2)
      | (go_at_call 208; (with_reducible refine (AQ2.out _ (bel_new w2 (.cells #[.int .i64 0, .int .i64 0, .int .u32 0] 25))).mono ?_); rintro e w3 ⟨rfl, hb3, hk3⟩; have B3 := Lib.hid hb3; have HX3 := Lib.hid (hk3 _ _ (Bk.new w2 25 #[.int .i64 0, .int .i64 0, .int .u32 0])); obtain ⟨x0, x1, x2, f0, f1, f2⟩ := lay3 HX3.out; clear hb3 hk3)
      | (go_at_call 208; (with_reducible refine (AQ2.out _ (Below.refl _ w2)).mono ?_); rintro e w3 ⟨rfl, hb3, hk3⟩; have B3 := Lib.hid hb3; have HX3 := Lib.hid (hk3 _ _ HX9.out); obtain ⟨x0, x1, x2, f0, f1, f2⟩ := lay3 HX3.out; clear hb3 hk3)
      | (go_at_call 208; (with_reducible refine (AQ2.out _ (Below.refl _ w2)).mono ?_); rintro e w3 ⟨rfl, hb3, hk3⟩; have B3 := Lib.hid hb3; clear hb3 hk3))
    all_goals
      go_wp2
      go_meet
      first
        | exact ⟨rfl, bel_alloc B3.out _⟩
        | exact ⟨rfl, put3_below B3.out B2.out.size _ _ _⟩
        | exact ⟨rfl, put3_below B3.out (Nat.le_refl w1.heap.size) _ _ _⟩
  case rest =>
  obtain ⟨rfl, B4⟩ := hcut
  have H4 := Lib.hid (H.out.below B4.out).1
  have N4 := Lib.hid (N0.out.below B4.out)
  have Q4 := Lib.hid (HB0.out.trans (B4.out.mono HB0.out.size))
  obtain ⟨hKK, hII, hGG, hEE, hT⟩ := KK.out
  by_cases hz : E = 0
  · subst hz
    have hg : W.gE 3 x = 0 := by rw [gE3, hEE]
    have HG := Lib.hid hg
    have NX : Hid (Calls Tryz.prog 64 #[.pointer (some ⟨A.s, 0, none⟩)] wc fun e w' => e = .returned (.int .i64 (W.L.headD 1)) ∧ (WW w' A W.next ∧ WStep A w w') ∧ Bk w' w.heap.size 25 #[.int .i64 0, .int .i64 0, .int .u32 0] ∧ ¬ WFoot w' A w.heap.size) := by
      refine (AN.next_at A.s W.L wc H4.out.hS).mono ?_
      rintro e w' ⟨rfl, q1, q2, q3⟩
      obtain ⟨y1, y2⟩ := H4.out.stepS q2 q1 (fun P _ hP => q3.out P hP) HH.out.ok.next
      have hn : ¬ WFoot wc A w.heap.size := fun u => by
        have := HH.out.foot_lt (((HH.out.below Q4.out).2 _).1 u); omega
      exact ⟨rfl, ⟨y1, (HH.out.quiet Q4.out).trans y2⟩, N4.out.kept y2.k hn, fun u => by rcases y2.g _ u with v | v; exact hn v; have := N4.out.lt; omega⟩
    have hc4 := H4.out.c0
    have hs4 := H4.out.p3
    unfold ptr at hc4 hs4
    have hans := HH.out.ok.ans
    obtain ⟨v, hv⟩ : ∃ v, W.h = v := ⟨_, rfl⟩
    have hv2 : W.L.headD 1 = v := hv
    rw [hv2] at NX
    rw [hv] at hans
    have HV := Lib.hid hv
    have HT := Lib.hid hT
    have HKK := Lib.hid (And.intro hKK (And.intro hII hGG))
    have HEE := Lib.hid hEE
    clear hv hv2 hg hT hKK hII hGG hEE hc
    go_wp2_with fail
    refine NX.out.mono ?_
    rintro e w5 ⟨rfl, hst, hb5, hn5⟩
    have ST := Lib.hid hst
    have N5 := Lib.hid hb5
    have U5 := Lib.hid hn5
    clear hst hb5 hn5 hc4 hs4 NX
    have h3 : v = 1 ∨ v = 2 ∨ v = 3 := by omega
    clear hans
    rcases h3 with rfl | rfl | rfl
    · obtain ⟨a1, a2⟩ := Wd.aE_ok HG.out HV.out
      obtain ⟨g1, g2, g3, g4⟩ := got3 a1
      have D5 := Lib.hid (bel_drew (Below.refl w5.heap.size w5))
      have H6 := Lib.hid (ST.out.1.below D5.out).1
      have N6 := Lib.hid (N5.out.below D5.out)
      have U6 : Hid (¬ WFoot w5.drew A w.heap.size) := fun u => U5.out (((ST.out.1.below D5.out).2 _).1 u)
      have c0 := H6.out.c0
      have c5 := H6.out.p5
      have e5 : W.next.T = T := HT.out
      rw [e5] at c5
      unfold ptr at c0
      have FA : Hid (Calls Tryz.prog 208 #[.agg #[.pointer (some ⟨A.d, 0, none⟩)], .int .i64 x, .int .i64 T] w5.drew fun e w' => e = .returned (.tuple #[.agg #[.int .i64 K, .int .i64 I, .int .u32 G], .int .i64 0]) ∧ (WW w' A (W.acq 3 x) ∧ WStep A w w') ∧ Bk w' w.heap.size 25 #[.int .i64 0, .int .i64 0, .int .u32 0] ∧ ¬ WFoot w' A w.heap.size ∧ w'.cell? ⟨A.b, 0, none⟩ = some (.pointer (some ⟨A.p, 0, none⟩)) ∧ w'.cell? ⟨A.p, 5, none⟩ = some (.int .i64 T)) := by
        refine (acq_desk A.d A.dk A.da W.D x T w5.drew H6.out.hD).mono ?_
        rintro e w' ⟨rfl, q1, q2⟩
        rw [a2, g4]
        rw [← HT.out] at q1
        obtain ⟨y1, y2⟩ := H6.out.stepD q2 q1 (by have := HH.out.ok.acq 3 x; rwa [a2, g4] at this)
        have c5' := y1.p5
        have e5' : W.T = T := HT.out
        refine ⟨by rw [← HKK.out.1, ← HKK.out.2.1, ← HKK.out.2.2, HT.out]; rw [show W.D.gE x T = 0 from (by rw [← HT.out]; exact HEE.out)], ⟨y1, (ST.out.2.trans (ST.out.1.quiet D5.out)).trans y2⟩, N6.out.kept y2.k U6.out, fun u => by rcases y2.g _ u with v | v; exact U6.out v; have := N6.out.lt; omega, y1.c0, by rw [← e5']; exact c5'⟩
      have HF := Lib.hid (And.intro a1 (And.intro (g1.trans HKK.out.1) (And.intro (g2.trans HKK.out.2.1) (g3.trans HKK.out.2.2))))
      clear a1 a2 g1 g2 g3 g4 e5
      go_wp2
      go_region_held3 (fun W => W.cell? ⟨A.b, 0, none⟩ = some (.pointer (some ⟨A.p, 0, none⟩)) ∧ W.cell? ⟨A.p, 5, none⟩ = some (.int .i64 T)) (first
        | (with_reducible exact hz6) | (with_reducible exact PZ.out _ _ _) | exact ⟨c0, c5⟩) (first
        | (go_at_call 208; refine FA.out.mono ?_; rintro e w6 ⟨rfl, hst, hb6, hn6, hz6⟩; have ST6 := Lib.hid hst; have N7 := Lib.hid hb6; have U7 := Lib.hid hn6; obtain ⟨x0, x1, x2, f0, f1, f2⟩ := lay3 hb6; have PZ : Hid (∀ a b c, (((w6.setCell ⟨w.heap.size, 0, none⟩ a).setCell ⟨w.heap.size, 1, none⟩ b).setCell ⟨w.heap.size, 2, none⟩ c).cell? ⟨A.b, 0, none⟩ = some (.pointer (some ⟨A.p, 0, none⟩)) ∧ (((w6.setCell ⟨w.heap.size, 0, none⟩ a).setCell ⟨w.heap.size, 1, none⟩ b).setCell ⟨w.heap.size, 2, none⟩ c).cell? ⟨A.p, 5, none⟩ = some (.int .i64 T)) := (fun a b c => by have hW := (WStep.box ST6.out.2 ST6.out.1 (Nat.le_refl _) U7.out (put3_kept w6 w.heap.size a b c)).1; refine ⟨hW.c0, ?_⟩; have := hW.p5; rwa [show (W.acq 3 x).T = T from (Wd.acq_T W 3 x).trans HT.out] at this); clear hst hb6 hn6))
      all_goals
        go_wp2
        have t := put3_bk N7.out (.int .i64 K) (.int .i64 I) (.int .u32 G)
        obtain ⟨y0, y1, y2, _⟩ := lay3 t
        obtain ⟨b0, b1, b2, b3⟩ := HF.out
        refine bodyPost_ret (v := .tuple #[.agg #[.int .i64 K, .int .i64 I, .int .u32 G], .int .i64 0]) (by simp [results, Tryz.results16, go_sem, y0, y1, y2]) rfl ⟨by rw [b0, b1, b2, b3], ?_⟩
        exact WStep.box ST6.out.2 ST6.out.1 (Nat.le_refl _) U7.out (put3_kept w6 w.heap.size _ _ _)
    · obtain ⟨a1, a2⟩ := Wd.aE_late HG.out HV.out
      obtain ⟨b1, b2, b3⟩ := Wd.a_ne (W := W) (k := 3) (x := x) (by rw [a1]; decide)
      have HF := Lib.hid (And.intro a1 (And.intro a2 (And.intro b1 (And.intro b2 b3))))
      clear a1 a2 b1 b2 b3
      obtain ⟨x0, x1, x2, f0, f1, f2⟩ := lay3 N5.out
      go_wp2
      have t := put3_bk N5.out (.int .i64 0) (.int .i64 0) (.int .u32 0)
      obtain ⟨y0, y1, y2, _⟩ := lay3 t
      obtain ⟨a3, a2, b1, b2, b3⟩ := HF.out
      refine bodyPost_ret (v := .tuple #[.agg #[.int .i64 0, .int .i64 0, .int .u32 0], .int .i64 15]) (by simp [results, Tryz.results16, go_sem, y0, y1, y2]) rfl ⟨by rw [a3, b1, b2, b3], ?_⟩
      rw [a2]
      exact WStep.box ST.out.2 ST.out.1 (Nat.le_refl _) U5.out (put3_kept w5 w.heap.size _ _ _)
    · obtain ⟨a1, a2⟩ := Wd.aE_fail HG.out HV.out
      obtain ⟨b1, b2, b3⟩ := Wd.a_ne (W := W) (k := 3) (x := x) (by rw [a1]; decide)
      have HF := Lib.hid (And.intro a1 (And.intro a2 (And.intro b1 (And.intro b2 b3))))
      clear a1 a2 b1 b2 b3
      obtain ⟨x0, x1, x2, f0, f1, f2⟩ := lay3 N5.out
      go_wp2
      have t := put3_bk N5.out (.int .i64 0) (.int .i64 0) (.int .u32 0)
      obtain ⟨y0, y1, y2, _⟩ := lay3 t
      obtain ⟨a3, a2, b1, b2, b3⟩ := HF.out
      refine bodyPost_ret (v := .tuple #[.agg #[.int .i64 0, .int .i64 0, .int .u32 0], .int .i64 14]) (by simp [results, Tryz.results16, go_sem, y0, y1, y2]) rfl ⟨by rw [a3, b1, b2, b3], ?_⟩
      rw [a2]
      exact WStep.box ST.out.2 ST.out.1 (Nat.le_refl _) U5.out (put3_kept w5 w.heap.size _ _ _)
  · have hz2 : (E == 0) = false := beq_eq_false_iff_ne.2 hz
    have hg : W.gE 3 x ≠ 0 := by rw [gE3, hEE]; exact hz
    obtain ⟨a1, a2⟩ := Wd.aE_ne hg
    obtain ⟨b1, b2, b3⟩ := Wd.a_ne (W := W) (k := 3) (x := x) (by rw [a1]; exact hg)
    have a3 : W.aE 3 x = E := a1.trans ((gE3 W x).trans hEE)
    have HF := Lib.hid (And.intro a3 (And.intro a2 (And.intro b1 (And.intro b2 b3))))
    clear a1 a2 a3 b1 b2 b3 hg hz hKK hII hGG hEE hT
    obtain ⟨x0, x1, x2, f0, f1, f2⟩ := lay3 N4.out
    go_wp2
    have t := put3_bk N4.out (.int .i64 0) (.int .i64 0) (.int .u32 0)
    obtain ⟨y0, y1, y2, _⟩ := lay3 t
    have q := put3_below Q4.out (Nat.le_refl w.heap.size) (.int .i64 0) (.int .i64 0) (.int .u32 0)
    obtain ⟨a3, a2, b1, b2, b3⟩ := HF.out
    refine bodyPost_ret (v := .tuple #[.agg #[.int .i64 0, .int .i64 0, .int .u32 0], .int .i64 E]) (by simp [results, Tryz.results16, go_sem, y0, y1, y2]) rfl ⟨by rw [a3, b1, b2, b3], ?_⟩
    rw [a2]
    exact ⟨(HH.out.below q).1, HH.out.quiet q⟩
set_option maxRecDepth 100000 in
set_option maxHeartbeats 1000000 in
theorem acq_none (A : Ad) (W : Wd) (k x : Int) (w : World) (h : WW w A W) (hk : ¬ (1 ≤ k ∧ k ≤ 3)) :
    Calls Tryz.prog 16 #[ptr A.b, .int .i64 k, .int .i64 x] w fun e w' => e = .returned (.tuple #[.agg #[.int .i64 0, .int .i64 0, .int .u32 0], .int .i64 2]) ∧ Below w.heap.size w w' := by
  have B0 := bel_new w (.cells #[.int .i64 0, .int .i64 0, .int .u32 0] 25)
  have HB0 := Lib.hid B0
  have n0 := Bk.new w 25 #[.int .i64 0, .int .i64 0, .int .u32 0]
  have H := Lib.hid (h.below B0).1
  have N0 := Lib.hid n0
  have hc := H.out.c0
  clear h B0 n0
  generalize hw1 : w.alloc (.cells #[.int .i64 0, .int .i64 0, .int .u32 0] 25) = w1 at *
  unfold ptr at *
  have TB := Lib.hid (wtable_ok A.p A k .nilIface w1 rfl H.out.p0 H.out.p1 H.out.p2 (by unfold tabV; rw [if_neg (by omega), if_neg (by omega), if_neg (by omega)]))
  have hnl : ∀ (w : World), (binOp .eql 100 .nilIface .nilIface).run Tryz.prog w = .ok (.bool true) w := fun _ => by kernel_rfl
  have hgu : ∀ (w : World), (eqGuard .eql 100 (.tmp 21) (.const .nilIface) .nilIface .nilIface).run Tryz.prog w = .ok () w := fun _ => by kernel_rfl
  obtain ⟨x0, x1, x2, f0, f1, f2⟩ := lay3 N0.out
  clear hk
  go_enter Tryz.func16, Tryz.ntmps16
  go_wp2_with (first
    | (go_at_call 62; refine (wvalid_yes _ _ _ hc).mono ?_; rintro e w' ⟨rfl, rfl⟩)
    | (go_at_call 63; refine TB.out.mono ?_; rintro e w' ⟨rfl, rfl⟩))
  have t := put3_bk N0.out (.int .i64 0) (.int .i64 0) (.int .u32 0)
  obtain ⟨y0, y1, y2, _⟩ := lay3 t
  exact bodyPost_ret (v := .tuple #[.agg #[.int .i64 0, .int .i64 0, .int .u32 0], .int .i64 2]) (by simp [results, Tryz.results16, go_sem, y0, y1, y2]) rfl ⟨rfl, put3_below HB0.out (Nat.le_refl w.heap.size) _ _ _⟩
set_option maxRecDepth 100000 in
set_option maxHeartbeats 1000000 in
theorem wacq_no (p : Option Addr) (k x : Int) (w : World) (h : WInv w p) :
    Calls Tryz.prog 16 #[.pointer p, .int .i64 k, .int .i64 x] w fun e w' => e = .returned (.tuple #[.agg #[.int .i64 0, .int .i64 0, .int .u32 0], .int .i64 1]) ∧ Below w.heap.size w w' := by
  have B0 := bel_new w (.cells #[.int .i64 0, .int .i64 0, .int .u32 0] 25)
  have HB0 := Lib.hid B0
  have n0 := Bk.new w 25 #[.int .i64 0, .int .i64 0, .int .u32 0]
  have H := Lib.hid (h.below B0)
  have N0 := Lib.hid n0
  clear h B0 n0
  generalize hw1 : w.alloc (.cells #[.int .i64 0, .int .i64 0, .int .u32 0] 25) = w1 at *
  obtain ⟨x0, x1, x2, f0, f1, f2⟩ := lay3 N0.out
  go_enter Tryz.func16, Tryz.ntmps16
  go_wp2_with (go_at_call 62; refine (wvalid_no _ _ H.out).mono ?_; rintro e w' ⟨rfl, rfl⟩)
  have t := put3_bk N0.out (.int .i64 0) (.int .i64 0) (.int .u32 0)
  obtain ⟨y0, y1, y2, _⟩ := lay3 t
  exact bodyPost_ret (v := .tuple #[.agg #[.int .i64 0, .int .i64 0, .int .u32 0], .int .i64 1]) (by simp [results, Tryz.results16, go_sem, y0, y1, y2]) rfl ⟨rfl, put3_below HB0.out (Nat.le_refl w.heap.size) _ _ _⟩
/-- Acquire, for any kind and number. -/
theorem wacq_ok (A : Ad) (W : Wd) (k x : Int) (w : World) (h : WW w A W) (hx : I64 x) :
    Calls Tryz.prog 16 #[ptr A.b, .int .i64 k, .int .i64 x] w fun e w' => e = .returned (.tuple #[.agg #[.int .i64 (W.aK k x), .int .i64 (W.aI k x), .int .u32 (W.aG k x)], .int .i64 (W.aE k x)]) ∧ WW w' A (W.acq k x) ∧ WStep A w w' := by
  by_cases k1 : k = 1
  · subst k1; exact acq_file A W x w h hx
  by_cases k2 : k = 2
  · subst k2; exact acq_buffer A W x w h hx
  by_cases k3 : k = 3
  · subst k3; exact acq_lease A W x w h hx
  · have hg : W.gE k x = 2 := by unfold Wd.gE; rw [if_neg k1, if_neg k2, if_neg k3]
    obtain ⟨a1, a2⟩ := Wd.aE_ne (W := W) (k := k) (x := x) (by rw [hg]; decide)
    obtain ⟨b1, b2, b3⟩ := Wd.a_ne (W := W) (k := k) (x := x) (by rw [a1, hg]; decide)
    rw [a2, b1, b2, b3, a1, hg]
    refine (acq_none A W k x w h (by omega)).mono ?_
    rintro e w' ⟨rfl, hb⟩
    exact ⟨rfl, (h.below hb).1, h.quiet hb⟩
end Go.Proofs.YtpinmiplefidpaaGreatDoor
