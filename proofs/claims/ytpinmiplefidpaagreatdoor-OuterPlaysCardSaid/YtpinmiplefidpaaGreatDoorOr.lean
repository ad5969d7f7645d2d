/- The contract of Acquire. -/
import Derived.Test.YtpinmiplefidpaaGreatDoorOf
import Derived.Test.YtpinmiplefidpaaGreatDoorOb
import Derived.Test.YtpinmiplefidpaaGreatDoorOg
import Derived.Deep.Cut
import Derived.Deep.CutRange
namespace Go.Proofs.YtpinmiplefidpaaGreatDoor
open Go.RowKit

theorem lay3 {w : World} {G : Nat} {a b c : Value} (h : Bk w G 25 #[a, b, c]) : w.cell? ⟨G, 0, none⟩ = some a ∧ w.cell? ⟨G, 1, none⟩ = some b ∧ w.cell? ⟨G, 2, none⟩ = some c ∧ w.frozen? ⟨G, 0, none⟩ = false ∧ w.frozen? ⟨G, 1, none⟩ = false ∧ w.frozen? ⟨G, 2, none⟩ = false := ⟨h.cell 0, h.cell 1, h.cell 2, h.frozen 0, h.frozen 1, h.frozen 2⟩
theorem put3_below {w0 w : World} {G : Nat} (h : Below w0.heap.size w0 w) (hG : w0.heap.size ≤ G) (a b c : Value) : Below w0.heap.size w0 (((w.setCell ⟨G, 0, none⟩ a).setCell ⟨G, 1, none⟩ b).setCell ⟨G, 2, none⟩ c) :=
  h.trans (((((Kept.refl (· = G) w).put1 0 a).put1 1 b).put1 2 c).below h.size fun k e => by subst e; exact hG)
theorem WStep.box {A : Ad} {w w1 w2 : World} {U : Wd} {R : Nat} (h : WStep A w w1) (f : WW w1 A U) (hR : w.heap.size ≤ R) (hn : ¬ WFoot w1 A R) (q : Kept (· = R) w1 w2) : WW w2 A U ∧ WStep A w w2 := by
  obtain ⟨f2, e⟩ := f.kept q fun g hg x => by subst x; exact hn hg
  refine ⟨f2, ⟨q.os.trans h.k.os, q.tape.trans h.k.tape, q.output.trans h.k.output, Nat.le_trans h.k.size q.size, fun i hi hs => (q.block i (Nat.lt_of_lt_of_le hi h.k.size) (by omega)).trans (h.k.block i hi hs)⟩, fun g hg => h.g g ((e g).1 hg)⟩
theorem put3_kept (w : World) (R : Nat) (a b c : Value) : Kept (· = R) w (((w.setCell ⟨R, 0, none⟩ a).setCell ⟨R, 1, none⟩ b).setCell ⟨R, 2, none⟩ c) := (((Kept.refl (· = R) w).put1 0 a).put1 1 b).put1 2 c
theorem put3_bk {w : World} {R : Nat} {t : TypeId} {x y z : Value} (h : Bk w R t #[x, y, z]) (a b c : Value) : Bk (((w.setCell ⟨R, 0, none⟩ a).setCell ⟨R, 1, none⟩ b).setCell ⟨R, 2, none⟩ c) R t #[a, b, c] := ((h.put 0 a).put 1 b).put 2 c
theorem Wd.a_ne {W : Wd} {k x : Int} (h : W.aE k x ≠ 0) : W.aK k x = 0 ∧ W.aI k x = 0 ∧ W.aG k x = 0 := ⟨if_neg h, if_neg h, if_neg h⟩
theorem Wd.aE_ne {W : Wd} {k x : Int} (h : W.gE k x ≠ 0) : W.aE k x = W.gE k x ∧ W.acq k x = W := ⟨if_neg h, if_neg h⟩
theorem Wd.aE_late {W : Wd} {k x : Int} (h : W.gE k x = 0) (h2 : W.h = 2) : W.aE k x = 15 ∧ W.acq k x = W.next := by
  have e : W.aE k x = 15 := by unfold Wd.aE; rw [if_pos h, if_pos h2]
  exact ⟨e, by unfold Wd.acq; rw [if_pos h, e]; rfl⟩
theorem Wd.aE_fail {W : Wd} {k x : Int} (h : W.gE k x = 0) (h2 : W.h = 3) : W.aE k x = 14 ∧ W.acq k x = W.next := by
  have e : W.aE k x = 14 := by unfold Wd.aE; rw [if_pos h, if_neg (by omega), if_pos h2]
  exact ⟨e, by unfold Wd.acq; rw [if_pos h, e]; rfl⟩
theorem Wd.aE_ok {W : Wd} {k x : Int} (h : W.gE k x = 0) (h2 : W.h = 1) : W.aE k x = 0 ∧ W.acq k x = W.next.got k x := by
  have e : W.aE k x = 0 := by unfold Wd.aE; rw [if_pos h, if_neg (by omega), if_neg (by omega)]
  exact ⟨e, by unfold Wd.acq; rw [if_pos h, e]; rfl⟩
theorem gE1 (W : Wd) (x : Int) : W.gE 1 x = W.F.opE x := rfl
theorem gE2 (W : Wd) (x : Int) : W.gE 2 x = W.P.can x := rfl
theorem gE3 (W : Wd) (x : Int) : W.gE 3 x = W.D.gE x W.T := rfl
theorem Wd.acq_T (W : Wd) (k x : Int) : (W.acq k x).T = W.T := by
  unfold Wd.acq Wd.got
  split
  · split
    · split
      · rfl
      · split <;> rfl
    · rfl
  · rfl
theorem got1 {W : Wd} {x : Int} (h : W.gE 1 x = 0) (ha : W.aE 1 x = 0) : W.aK 1 x = W.F.opK x ∧ W.aI 1 x = W.F.opI x ∧ W.aG 1 x = W.F.opG x ∧ W.next.got 1 x = { W.next with F := W.F.op x } := by
  obtain ⟨h1, h2, _⟩ := Wd.gE_file h
  unfold Wd.aK Wd.aI Wd.aG FD.Fb.opK FD.Fb.opI FD.Fb.opG FD.Fb.op Wd.got
  simp only [if_pos ha, if_pos (And.intro h1 h2), if_true]
  exact ⟨trivial, trivial, trivial, rfl⟩
theorem got2 {W : Wd} {x : Int} (ha : W.aE 2 x = 0) : W.aK 2 x = W.P.pK x ∧ W.aI 2 x = W.P.pI x ∧ W.aG 2 x = W.P.pG x ∧ W.next.got 2 x = { W.next with P := W.P.pin x } := by
  unfold Wd.aK Wd.aI Wd.aG Wd.got
  simp only [if_pos ha]
  exact ⟨rfl, rfl, rfl, rfl⟩
theorem got3 {W : Wd} {x : Int} (ha : W.aE 3 x = 0) : W.aK 3 x = W.D.gK x W.T ∧ W.aI 3 x = W.D.gI x W.T ∧ W.aG 3 x = W.D.gG x W.T ∧ W.next.got 3 x = { W.next with D := W.D.grant x W.T } := by
  unfold Wd.aK Wd.aI Wd.aG Wd.got
  simp only [if_pos ha]
  exact ⟨rfl, rfl, rfl, rfl⟩
set_option maxRecDepth 100000 in
set_option maxHeartbeats 4000000 in
theorem acq_file (A : Ad) (W : Wd) (x : Int) (w : World) (h : WW w A W) (hx : I64 x) :
    Calls Tryz.prog 16 #[ptr A.b, .int .i64 1, .int .i64 x] w fun e w' => e = .returned (.tuple #[.agg #[.int .i64 (W.aK 1 x), .int .i64 (W.aI 1 x), .int .u32 (W.aG 1 x)], .int .i64 (W.aE 1 x)]) ∧ WW w' A (W.acq 1 x) ∧ WStep A w w' := by
  have B0 := bel_new w (.cells #[.int .i64 0, .int .i64 0, .int .u32 0] 25)
  have HB0 := Lib.hid B0
  have n0 := Bk.new w 25 #[.int .i64 0, .int .i64 0, .int .u32 0]
  have HH := Lib.hid h
  have H := Lib.hid (h.below B0).1
  have N0 := Lib.hid n0
  have HX := Lib.hid hx
  have hc := H.out.c0
  clear h B0 n0 hx
  generalize hw1 : w.alloc (.cells #[.int .i64 0, .int .i64 0, .int .u32 0] 25) = w1 at *
  unfold ptr at *
  have LT := Lib.hid (show w.heap.size < w1.heap.size from N0.out.lt)
  have D1 := Lib.hid (bel_drew (Below.refl w1.heap.size w1))
  have TB := Lib.hid (wtable_ok A.p A 1 (vF A.f) w1 rfl H.out.p0 H.out.p1 H.out.p2 rfl)
  have hmt := mF_twin A.f
  have hnl : ∀ (b : Nat) (w : World), (binOp .eql 100 (vF b) .nilIface).run Tryz.prog w = .ok (.bool false) w := fun _ _ => by kernel_rfl
  have hma := mF_acquire
  have hgu : ∀ (b : Nat) (w : World), (eqGuard .eql 100 (.tmp 21) (.const .nilIface) (vF b) .nilIface).run Tryz.prog w = .ok () w := fun _ _ => by kernel_rfl
  have hna : ∀ (b : Nat) (w : World), (nilAhead 375 94 (.agg #[.pointer (some ⟨b, 0, none⟩)]) "estray/outer.acquire").run Tryz.prog w = .ok (some false) w := fun _ _ => by kernel_rfl
  have hmf : ∀ (fn : Fn) (first cap : Array Value) (w : World), (Instr.makeFunc fn first cap).run Tryz.prog w = .ok (.func fn first cap) w := fun _ _ _ _ => rfl
  have DA : Hid (∀ o, Below w1.heap.size w1 (w1.alloc o).drew) := fun o => bel_drew (bel_new w1 _)
  have TW : Hid (∀ W' : World, Below w1.heap.size w1 W' → Calls Tryz.prog 184 #[.agg #[.pointer (some ⟨A.f, 0, none⟩)]] W' fun e w' => ∃ b', e = .returned (vF b') ∧ Hid (FD.FNew W.F W' b' w')) := fun W' hB => twin_files A.f A.fk A.fm W.F W' (H.out.below hB).1.hF
  obtain ⟨K, hK⟩ : ∃ K, W.F.opK x = K := ⟨_, rfl⟩
  obtain ⟨I, hI⟩ : ∃ I, W.F.opI x = I := ⟨_, rfl⟩
  obtain ⟨G, hG⟩ : ∃ G, W.F.opG x = G := ⟨_, rfl⟩
  obtain ⟨E, hE⟩ : ∃ E, W.F.opE x = E := ⟨_, rfl⟩
  have AQ : Hid (∀ (W0 w2 : World) (b' : Nat), FD.FNew W.F W0 b' w2 → w1.heap.size ≤ W0.heap.size → Below w1.heap.size w1 w2 → ∀ W', Below w2.heap.size w2 W' → Calls Tryz.prog 182 #[.agg #[.pointer (some ⟨b', 0, none⟩)], .int .i64 x, .int .i64 W.T] W' fun e w' => e = .returned (.tuple #[.agg #[.int .i64 K, .int .i64 I, .int .u32 G], .int .i64 E]) ∧ Below w1.heap.size w1 w' ∧ ∀ g cs, Bk W' g 25 cs → Bk w' g 25 cs) := by
    intro W0 w2 b' hn hs hb W' hB
    obtain ⟨k', m', q0', q1, _⟩ := hn
    have q0 := q0'.below hB
    refine (acq_files b' k' m' W.F x W.T HX.out W' q0).mono ?_
    rintro e w' ⟨rfl, q3, q2⟩
    rw [hK, hI, hG, hE]
    exact ⟨rfl, (hb.trans (hB.mono hb.size)).trans (q2.below (Nat.le_trans hb.size hB.size) fun g hg => Nat.le_trans hs (q1 g hg)), fun g cs hA => (hA.kept q2 (q0.box hA (by decide) (by decide)))⟩
  have hTT : Hid (W.T = W.T) := rfl
  obtain ⟨T, hT⟩ : ∃ T, W.T = T := ⟨_, rfl⟩
  rw [hT] at AQ
  have SC : Hid (∀ W' : World, Below w1.heap.size w1 W' → W'.cell? ⟨A.b, 0, none⟩ = some (.pointer (some ⟨A.p, 0, none⟩)) ∧ W'.cell? ⟨A.p, 5, none⟩ = some (.int .i64 T)) := fun W' hB => ⟨(H.out.below hB).1.c0, by have := (H.out.below hB).1.p5; rwa [hT] at this⟩
  have KK := Lib.hid (And.intro hK (And.intro hI (And.intro hG (And.intro hE hT))))
  clear hK hI hG hE hT
  go_enter Tryz.func16, Tryz.ntmps16
  go_wp2_with (first
    | (go_at_call 62; refine (wvalid_yes _ _ _ hc).mono ?_; rintro e w' ⟨rfl, rfl⟩)
    | (go_at_call 63; refine TB.out.mono ?_; rintro e w' ⟨rfl, rfl⟩))
  unfold vF at *
  go_wp2_with fail
  go_cut [9, 10] from 23 to 40 (fun v9 v10 wx => v10 = .int .i64 E ∧ Hid (Below w1.heap.size w1 wx))
  case first =>
    obtain ⟨c0, c5⟩ := SC.out _ D1.out
    go_region_held3 (fun W => W.cell? ⟨A.b, 0, none⟩ = some (.pointer (some ⟨A.p, 0, none⟩)) ∧ W.cell? ⟨A.p, 5, none⟩ = some (.int .i64 T)) (first
      | (with_reducible exact SC.out _ B3.out) | (with_reducible exact SC.out _ (bel_alloc B3.out _)) | (with_reducible exact SC.out _ (put3_below B3.out (Nat.le_refl _) _ _ _)) | (with_reducible exact SC.out _ (put3_below B3.out B2.out.size _ _ _))
      | (with_reducible exact SC.out _ B2.out) | (with_reducible exact SC.out _ (bel_alloc B2.out _)) | (with_reducible exact SC.out _ (DA.out _)) | exact ⟨c0, c5⟩) (first
      | (go_at_call 184; (with_reducible refine (TW.out _ (DA.out (.cells #[.int .i64 0, .int .i64 0, .int .u32 0] 25))).mono ?_); rintro e w2 ⟨b', rfl, hn⟩; have b2 := (show Below _ _ w2 by obtain ⟨_, _, _, _, h⟩ := hn.out; exact h); have B2 := Lib.hid (bel2 (DA.out (.cells #[.int .i64 0, .int .i64 0, .int .u32 0] 25)) b2); have AQ2 := Lib.hid (AQ.out _ w2 b' hn.out (DA.out (.cells #[.int .i64 0, .int .i64 0, .int .u32 0] 25)).size B2.out); have HX9 := Lib.hid ((show Bk (w1.alloc (.cells #[.int .i64 0, .int .i64 0, .int .u32 0] 25)).drew w1.heap.size 25 #[.int .i64 0, .int .i64 0, .int .u32 0] from Bk.new w1 _ _).below b2); clear hn b2)
      | (go_at_call 184; (with_reducible refine (TW.out _ D1.out).mono ?_); rintro e w2 ⟨b', rfl, hn⟩; have b2 := (show Below _ _ w2 by obtain ⟨_, _, _, _, h⟩ := hn.out; exact h); have B2 := Lib.hid (bel2 D1.out b2); have AQ2 := Lib.hid (AQ.out _ w2 b' hn.out D1.out.size B2.out); clear hn b2)
      | (go_at_call 182; (with_reducible refine (AQ2.out _ (bel_new w2 (.cells #[.int .i64 0, .int .i64 0, .int .u32 0] 25))).mono ?_); rintro e w3 ⟨rfl, hb3, hk3⟩; have B3 := Lib.hid hb3; have HX3 := Lib.hid (hk3 _ _ (Bk.new w2 25 #[.int .i64 0, .int .i64 0, .int .u32 0])); obtain ⟨x0, x1, x2, f0, f1, f2⟩ := lay3 HX3.out; clear hb3 hk3)
      | (go_at_call 182; (with_reducible refine (AQ2.out _ (Below.refl _ w2)).mono ?_); rintro e w3 ⟨rfl, hb3, hk3⟩; have B3 := Lib.hid hb3; have HX3 := Lib.hid (hk3 _ _ HX9.out); obtain ⟨x0, x1, x2, f0, f1, f2⟩ := lay3 HX3.out; clear hb3 hk3)
      | (go_at_call 182; (with_reducible refine (AQ2.out _ (Below.refl _ w2)).mono ?_); rintro e w3 ⟨rfl, hb3, hk3⟩; have B3 := Lib.hid hb3; clear hb3 hk3))
    all_goals
      go_wp2
      go_meet
      first
        | exact ⟨rfl, bel_alloc B3.out _⟩
        | exact ⟨rfl, put3_below B3.out B2.out.size _ _ _⟩
        | exact ⟨rfl, put3_below B3.out (Nat.le_refl w1.heap.size) _ _ _⟩
  case rest =>
  obtain ⟨rfl, B4⟩ := hcut
  have H4 := Lib.hid (H.out.below B4.out).1
  have N4 := Lib.hid (N0.out.below B4.out)
  have Q4 := Lib.hid (HB0.out.trans (B4.out.mono HB0.out.size))
  obtain ⟨hKK, hII, hGG, hEE, hT⟩ := KK.out
  by_cases hz : E = 0
  · subst hz
    have hg : W.gE 1 x = 0 := by rw [gE1, hEE]
    have HG := Lib.hid hg
    have NX : Hid (Calls Tryz.prog 64 #[.pointer (some ⟨A.s, 0, none⟩)] wc fun e w' => e = .returned (.int .i64 (W.L.headD 1)) ∧ (WW w' A W.next ∧ WStep A w w') ∧ Bk w' w.heap.size 25 #[.int .i64 0, .int .i64 0, .int .u32 0] ∧ ¬ WFoot w' A w.heap.size) := by
      refine (AN.next_at A.s W.L wc H4.out.hS).mono ?_
      rintro e w' ⟨rfl, q1, q2, q3⟩
      obtain ⟨y1, y2⟩ := H4.out.stepS q2 q1 (fun P _ hP => q3.out P hP) HH.out.ok.next
      have hn : ¬ WFoot wc A w.heap.size := fun u => by
        have := HH.out.foot_lt (((HH.out.below Q4.out).2 _).1 u); omega
      exact ⟨rfl, ⟨y1, (HH.out.quiet Q4.out).trans y2⟩, N4.out.kept y2.k hn, fun u => by rcases y2.g _ u with v | v; exact hn v; have := N4.out.lt; omega⟩
    have hc4 := H4.out.c0
    have hs4 := H4.out.p3
    unfold ptr at hc4 hs4
    have hans := HH.out.ok.ans
    obtain ⟨v, hv⟩ : ∃ v, W.h = v := ⟨_, rfl⟩
    have hv2 : W.L.headD 1 = v := hv
    rw [hv2] at NX
    rw [hv] at hans
    have HV := Lib.hid hv
    have HT := Lib.hid hT
    have HKK := Lib.hid (And.intro hKK (And.intro hII hGG))
    have HEE := Lib.hid hEE
    clear hv hv2 hg hT hKK hII hGG hEE hc
    go_wp2_with fail
    refine NX.out.mono ?_
    rintro e w5 ⟨rfl, hst, hb5, hn5⟩
    have ST := Lib.hid hst
    have N5 := Lib.hid hb5
    have U5 := Lib.hid hn5
    clear hst hb5 hn5 hc4 hs4 NX
    have h3 : v = 1 ∨ v = 2 ∨ v = 3 := by omega
    clear hans
    rcases h3 with rfl | rfl | rfl
    · obtain ⟨a1, a2⟩ := Wd.aE_ok HG.out HV.out
      obtain ⟨g1, g2, g3, g4⟩ := got1 HG.out a1
      have D5 := Lib.hid (bel_drew (Below.refl w5.heap.size w5))
      have H6 := Lib.hid (ST.out.1.below D5.out).1
      have N6 := Lib.hid (N5.out.below D5.out)
      have U6 : Hid (¬ WFoot w5.drew A w.heap.size) := fun u => U5.out (((ST.out.1.below D5.out).2 _).1 u)
      have c0 := H6.out.c0
      have c5 := H6.out.p5
      have e5 : W.next.T = T := HT.out
      rw [e5] at c5
      unfold ptr at c0
      have FA : Hid (Calls Tryz.prog 182 #[.agg #[.pointer (some ⟨A.f, 0, none⟩)], .int .i64 x, .int .i64 T] w5.drew fun e w' => e = .returned (.tuple #[.agg #[.int .i64 K, .int .i64 I, .int .u32 G], .int .i64 0]) ∧ (WW w' A (W.acq 1 x) ∧ WStep A w w') ∧ Bk w' w.heap.size 25 #[.int .i64 0, .int .i64 0, .int .u32 0] ∧ ¬ WFoot w' A w.heap.size ∧ w'.cell? ⟨A.b, 0, none⟩ = some (.pointer (some ⟨A.p, 0, none⟩)) ∧ w'.cell? ⟨A.p, 5, none⟩ = some (.int .i64 T)) := by
        refine (acq_files A.f A.fk A.fm W.F x T HX.out w5.drew H6.out.hF).mono ?_
        rintro e w' ⟨rfl, q1, q2⟩
        rw [a2, g4]
        
        obtain ⟨y1, y2⟩ := H6.out.stepF q2 q1 (by have := HH.out.ok.acq 1 x; rwa [a2, g4] at this)
        have c5' := y1.p5
        have e5' : W.T = T := HT.out
        refine ⟨by rw [← HKK.out.1, ← HKK.out.2.1, ← HKK.out.2.2]; rw [show W.F.opE x = 0 from HEE.out], ⟨y1, (ST.out.2.trans (ST.out.1.quiet D5.out)).trans y2⟩, N6.out.kept y2.k U6.out, fun u => by rcases y2.g _ u with v | v; exact U6.out v; have := N6.out.lt; omega, y1.c0, by rw [← e5']; exact c5'⟩
      have HF := Lib.hid (And.intro a1 (And.intro (g1.trans HKK.out.1) (And.intro (g2.trans HKK.out.2.1) (g3.trans HKK.out.2.2))))
      clear a1 a2 g1 g2 g3 g4 e5
      go_wp2
      go_region_held3 (fun W => W.cell? ⟨A.b, 0, none⟩ = some (.pointer (some ⟨A.p, 0, none⟩)) ∧ W.cell? ⟨A.p, 5, none⟩ = some (.int .i64 T)) (first
        | (with_reducible exact hz6) | (with_reducible exact PZ.out _ _ _) | exact ⟨c0, c5⟩) (first
        | (go_at_call 182; refine FA.out.mono ?_; rintro e w6 ⟨rfl, hst, hb6, hn6, hz6⟩; have ST6 := Lib.hid hst; have N7 := Lib.hid hb6; have U7 := Lib.hid hn6; obtain ⟨x0, x1, x2, f0, f1, f2⟩ := lay3 hb6; have PZ : Hid (∀ a b c, (((w6.setCell ⟨w.heap.size, 0, none⟩ a).setCell ⟨w.heap.size, 1, none⟩ b).setCell ⟨w.heap.size, 2, none⟩ c).cell? ⟨A.b, 0, none⟩ = some (.pointer (some ⟨A.p, 0, none⟩)) ∧ (((w6.setCell ⟨w.heap.size, 0, none⟩ a).setCell ⟨w.heap.size, 1, none⟩ b).setCell ⟨w.heap.size, 2, none⟩ c).cell? ⟨A.p, 5, none⟩ = some (.int .i64 T)) := (fun a b c => by have hW := (WStep.box ST6.out.2 ST6.out.1 (Nat.le_refl _) U7.out (put3_kept w6 w.heap.size a b c)).1; refine ⟨hW.c0, ?_⟩; have := hW.p5; rwa [show (W.acq 1 x).T = T from (Wd.acq_T W 1 x).trans HT.out] at this); clear hst hb6 hn6))
      all_goals
        go_wp2
        have t := put3_bk N7.out (.int .i64 K) (.int .i64 I) (.int .u32 G)
        obtain ⟨y0, y1, y2, _⟩ := lay3 t
        obtain ⟨b0, b1, b2, b3⟩ := HF.out
        refine bodyPost_ret (v := .tuple #[.agg #[.int .i64 K, .int .i64 I, .int .u32 G], .int .i64 0]) (by simp [results, Tryz.results16, go_sem, y0, y1, y2]) rfl ⟨by rw [b0, b1, b2, b3], ?_⟩
        exact WStep.box ST6.out.2 ST6.out.1 (Nat.le_refl _) U7.out (put3_kept w6 w.heap.size _ _ _)
    · obtain ⟨a1, a2⟩ := Wd.aE_late HG.out HV.out
      obtain ⟨b1, b2, b3⟩ := Wd.a_ne (W := W) (k := 1) (x := x) (by rw [a1]; decide)
      have HF := Lib.hid (And.intro a1 (And.intro a2 (And.intro b1 (And.intro b2 b3))))
      clear a1 a2 b1 b2 b3
      obtain ⟨x0, x1, x2, f0, f1, f2⟩ := lay3 N5.out
      go_wp2
      have t := put3_bk N5.out (.int .i64 0) (.int .i64 0) (.int .u32 0)
      obtain ⟨y0, y1, y2, _⟩ := lay3 t
      obtain ⟨a3, a2, b1, b2, b3⟩ := HF.out
      refine bodyPost_ret (v := .tuple #[.agg #[.int .i64 0, .int .i64 0, .int .u32 0], .int .i64 15]) (by simp [results, Tryz.results16, go_sem, y0, y1, y2]) rfl ⟨by rw [a3, b1, b2, b3], ?_⟩
      rw [a2]
      exact WStep.box ST.out.2 ST.out.1 (Nat.le_refl _) U5.out (put3_kept w5 w.heap.size _ _ _)
    · obtain ⟨a1, a2⟩ := Wd.aE_fail HG.out HV.out
      obtain ⟨b1, b2, b3⟩ := Wd.a_ne (W := W) (k := 1) (x := x) (by rw [a1]; decide)
      have HF := Lib.hid (And.intro a1 (And.intro a2 (And.intro b1 (And.intro b2 b3))))
      clear a1 a2 b1 b2 b3
      obtain ⟨x0, x1, x2, f0, f1, f2⟩ := lay3 N5.out
      go_wp2
      have t := put3_bk N5.out (.int .i64 0) (.int .i64 0) (.int .u32 0)
      obtain ⟨y0, y1, y2, _⟩ := lay3 t
      obtain ⟨a3, a2, b1, b2, b3⟩ := HF.out
      refine bodyPost_ret (v := .tuple #[.agg #[.int .i64 0, .int .i64 0, .int .u32 0], .int .i64 14]) (by simp [results, Tryz.results16, go_sem, y0, y1, y2]) rfl ⟨by rw [a3, b1, b2, b3], ?_⟩
      rw [a2]
      exact WStep.box ST.out.2 ST.out.1 (Nat.le_refl _) U5.out (put3_kept w5 w.heap.size _ _ _)
  · have hz2 : (E == 0) = false := beq_eq_false_iff_ne.2 hz
    have hg : W.gE 1 x ≠ 0 := by rw [gE1, hEE]; exact hz
    obtain ⟨a1, a2⟩ := Wd.aE_ne hg
    obtain ⟨b1, b2, b3⟩ := Wd.a_ne (W := W) (k := 1) (x := x) (by rw [a1]; exact hg)
    have a3 : W.aE 1 x = E := a1.trans ((gE1 W x).trans hEE)
    have HF := Lib.hid (And.intro a3 (And.intro a2 (And.intro b1 (And.intro b2 b3))))
    clear a1 a2 a3 b1 b2 b3 hg hz hKK hII hGG hEE hT
    obtain ⟨x0, x1, x2, f0, f1, f2⟩ := lay3 N4.out
    go_wp2
    have t := put3_bk N4.out (.int .i64 0) (.int .i64 0) (.int .u32 0)
    obtain ⟨y0, y1, y2, _⟩ := lay3 t
    have q := put3_below Q4.out (Nat.le_refl w.heap.size) (.int .i64 0) (.int .i64 0) (.int .u32 0)
    obtain ⟨a3, a2, b1, b2, b3⟩ := HF.out
    refine bodyPost_ret (v := .tuple #[.agg #[.int .i64 0, .int .i64 0, .int .u32 0], .int .i64 E]) (by simp [results, Tryz.results16, go_sem, y0, y1, y2]) rfl ⟨by rw [a3, b1, b2, b3], ?_⟩
    rw [a2]
    exact ⟨(HH.out.below q).1, HH.out.quiet q⟩
end Go.Proofs.YtpinmiplefidpaaGreatDoor
