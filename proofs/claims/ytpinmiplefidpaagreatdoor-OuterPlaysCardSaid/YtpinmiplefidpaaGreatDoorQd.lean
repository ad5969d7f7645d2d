/- The document's world: New, Copy. -/
import Derived.Test.YtpinmiplefidpaaGreatDoorQc
import Derived.Test.YtpinmiplefidpaaGreatDoorOh
import Derived.Deep.RegionHeld3
namespace Go.Proofs.YtpinmiplefidpaaGreatDoor
open Go.RowKit

theorem rsnew_at (w : World) : Calls Tryz.prog 60 #[] w fun e w' => e = .returned (.pointer (some ⟨w.heap.size, 0, none⟩)) ∧ AN.SrcW 184 w' w.heap.size [] ∧ (∀ g, ¬ ASl w' w.heap.size g) ∧ Below w.heap.size w w' := by
  go_enter Tryz.func60, Tryz.ntmps60
  go_wp2
  go_ret
  refine ⟨rfl, ⟨AN.src_nil, _, _, Bk.new w _ _, AN.Sl.nil _⟩, ?_, bel_new _ _⟩
  rintro g ⟨a, n, c, h1, _⟩
  rw [(Bk.new w 184 #[.bool true, .slice none 0 0]).cell] at h1
  simp at h1
set_option maxRecDepth 100000 in
set_option maxHeartbeats 1000000 in
theorem rscopy_at (b : Nat) (L : List Int) (w : World) (h : AN.SrcW 184 w b L) : Calls Tryz.prog 90 #[.pointer (some ⟨b, 0, none⟩)] w fun e w' => ∃ b', w.heap.size ≤ b' ∧ e = .returned (.pointer (some ⟨b', 0, none⟩)) ∧ AN.SrcW 184 w' b' L ∧ (∀ g, ASl w' b' g → w.heap.size ≤ g) ∧ Below w.heap.size w w' := by
  obtain ⟨a, c, hc0, hc1, hf, hsl, hbk⟩ := h.cells
  have hle := h.ok.le
  have hbl := hbk.lt
  have H := Lib.hid h
  have HS := Lib.hid hsl
  clear h hsl hbk
  go_enter Tryz.func90, Tryz.ntmps90
  go_wp2_with fail
  refine (AN.rvalid_yes _ _ hc0).mono ?_
  rintro e w' ⟨rfl, rfl⟩
  have HBW : Hid (Below w.heap.size w (w.alloc (.cells #[] 3))) := (Below.refl _ w).alloc (Nat.le_refl _) _
  have HO := Lib.hid (AN.own_empty w)
  go_wp2_with (at_builtin; refine AN.wpList_append_sl rfl _ _ rfl w.heap.size _ 0 [] rfl HO.out _ L rfl (HS.out.below HBW.out) (by omega) (by simp) ?_)
  intro u w1 hown1 hgrow1
  have hb1 := HBW.out.grown hgrow1 (by simp) (fun k hk => AN.own_lt HO.out k hk)
  have hown : w1.ownsRow w.heap.size 3 1 u L.length (AN.ints L) := by simpa [AN.ints] using hown1
  clear hown1 hgrow1
  have hsl1 := AN.Sl.of_own hown
  obtain ⟨a1, c1, rfl, hsl2⟩ := hsl1.len
  have HB1 := Lib.hid hb1
  have HV := Lib.hid hsl2
  have HO1 := Lib.hid hown
  clear hown hb1 hsl1 hsl2 hc0 hc1 hf
  go_wp2
  go_ret
  refine ⟨_, HB1.out.size, rfl, ⟨H.out.ok, a1, c1, Bk.new _ _ _, HV.out.below ((Below.refl _ _).alloc (Nat.le_refl _) _)⟩, ?_, HB1.out.alloc HB1.out.size _⟩
  rintro g ⟨a2, n2, c2, h1, rfl⟩
  rw [(Bk.new w1 184 #[.bool true, .slice a1 L.length c1]).cell] at h1
  have e2 : a1 = some a2 := by
    have := Option.some.inj h1
    injection this
  subst e2
  exact (HO1.out.lt a2.block rfl).1
/-- A new world out of its parts, made one after another. -/
theorem rassemble {w w0 w1 w2 w3 w4 w5 : World} {W : Wd} {f fd p pd q qc qd qg s g lo : Nat} {v : Value} (hok : W.Ok) (b0 : Below w.heap.size w w0)
    (hF : FD.DW w1 f fd W.F) (lf : w0.heap.size ≤ f) (lfd : w0.heap.size ≤ fd) (b1 : Below w0.heap.size w0 w1)
    (hP : BF.DW w2 p pd W.P) (lp : w1.heap.size ≤ p) (lpd : w1.heap.size ≤ pd) (b2 : Below w1.heap.size w1 w2)
    (hD : LS.QW w3 q qc qd qg W.D) (lq : ∀ z, LS.QFt q qc qd qg z → w2.heap.size ≤ z) (b3 : Below w2.heap.size w2 w3)
    (hS : AN.SrcW 184 w4 s W.L) (ls : w3.heap.size ≤ s) (la : ∀ z, ASl w4 s z → w3.heap.size ≤ z) (b4 : Below w3.heap.size w3 w4)
    (hL : LG.RefW w5 g v lo W.B) (ll : w4.heap.size ≤ lo) (b5 : Below w4.heap.size w4 w5) :
    RSt w (w5.alloc (.cells (rcells ⟨w5.heap.size, f, fd, p, pd, q, qc, qd, qg, s, g, lo, v⟩ W.T) 118)) ⟨w5.heap.size, f, fd, p, pd, q, qc, qd, qg, s, g, lo, v⟩ W := by
  have z0 := b0.size
  have z1 := b1.size
  have z2 := b2.size
  have z3 := b3.size
  have z4 := b4.size
  have z5 := b5.size
  have b6 := bel_new w5 (.cells (rcells ⟨w5.heap.size, f, fd, p, pd, q, qc, qd, qg, s, g, lo, v⟩ W.T) 118)
  have c4 := bel2 b5 b6
  have c3 := bel2 b4 c4
  have c2 := bel2 b3 c3
  have c1 := bel2 b2 c2
  have c0 := bel2 b1 c1
  refine ⟨⟨hok, Bk.new _ _ _, hF.below c1, hP.below c2, hD.below c3, hS.below c4, ⟨hL.ok, hL.len, hL.hb.below b6, own_below hL.row b6, hL.lb⟩⟩, bel2 b0 c0, fun z hz => ?_⟩
  rcases hz with e | (e | e) | (e | e) | e | (e | e) | (e | e)
  · have e' : z = w5.heap.size := e
    omega
  · have e' : z = f := e
    omega
  · have e' : z = fd := e
    omega
  · have e' : z = p := e
    omega
  · have e' : z = pd := e
    omega
  · have := lq z e
    omega
  · have e' : z = s := e
    omega
  · have := la z ((ASl.same (c4.block _ hS.lt)).1 e)
    omega
  · have e' : z = g := e
    have := hL.lb
    omega
  · have := (hL.row.lt z e).1
    omega
theorem rnew_bad (w : World) : Calls Tryz.prog 15 #[.int .u32 0] w fun e w' => e = .returned (.tuple #[.pointer none, .int .i64 2]) ∧ w = w' := by
  go_enter Tryz.func15, Tryz.ntmps15
  go_wp2_with fail
  refine (SR.rone_zero _).mono ?_
  rintro e w' ⟨rfl, rfl⟩
  go_wp2
  exact bodyPost_ret (v := .tuple #[.pointer none, .int .i64 2]) (by simp [results, Tryz.results15, go_sem]) rfl ⟨rfl, rfl⟩
set_option maxRecDepth 100000 in
set_option maxHeartbeats 1000000 in
theorem rwnew_ok (n : Nat) (w : World) (h1 : 1 ≤ n) (h2 : n ≤ 4294967295) : Calls Tryz.prog 15 #[.int .u32 n] w fun e w' => ∃ x : Rx, e = .returned (.tuple #[.pointer (some ⟨x.r, 0, none⟩), .int .i64 0]) ∧ RSt w w' x (wfresh n) := by
  have N1 := Lib.hid (fun v => FD.dnew_ok 64 n v (by decide) (by decide) h1 h2)
  have N2 := Lib.hid (fun v => BF.dnew_ok 64 1048576 n v (by decide) (by decide) h1 h2 (by decide) (by decide))
  have N3 := Lib.hid (fun v => LS.enew_ok 64 n v (by decide) (by decide) h1 h2)
  have CK := Lib.hid (SR.rone_ok (n : Int) w (by omega))
  have OK := Lib.hid (wfresh_ok h1 h2)
  clear h1 h2
  go_enter Tryz.func15, Tryz.ntmps15
  go_wp2_with fail
  refine CK.out.mono ?_
  rintro e w' ⟨rfl, rfl⟩
  go_wp2_with fail
  refine (N1.out _).mono ?_
  rintro e w1 ⟨f, rfl, hf⟩
  have F1 := Lib.hid hf.out
  clear hf N1
  go_wp2_with fail
  refine (N2.out _).mono ?_
  rintro e w2 ⟨p, rfl, hp⟩
  have P1 := Lib.hid hp.out
  clear hp N2
  go_wp2_with fail
  refine (N3.out _).mono ?_
  rintro e w3 ⟨q, rfl, hq⟩
  have D1 := Lib.hid hq.out
  clear hq N3
  go_wp2_with fail
  refine (rsnew_at _).mono ?_
  rintro e w4 ⟨rfl, s1, s2, s3⟩
  have S1 := Lib.hid (And.intro s1 (And.intro s2 s3))
  clear s1 s2 s3
  go_wp2_with fail
  refine (LG.rnew_ok _).mono ?_
  rintro e w5 ⟨rfl, l1, l2⟩
  obtain ⟨fd, f1, f2, f3, f4⟩ := F1.out
  obtain ⟨pd, p1, p2, p3, p4⟩ := P1.out
  obtain ⟨qc, qd, qg, q1, q2, q3⟩ := D1.out
  have R := Lib.hid (rassemble OK.out (Below.refl _ w) f1 f2 f3 f4 p1 p2 p3 p4 q1 q2 q3 S1.out.1 (Nat.le_refl _) (fun z hz => absurd hz (S1.out.2.1 z)) S1.out.2.2 l1 (Nat.le_refl _) l2)
  clear f1 f2 f3 f4 p1 p2 p3 p4 q1 q2 q3 l1 l2 F1 P1 D1 S1 CK
  go_wp2
  exact bodyPost_ret (v := .tuple #[.pointer (some ⟨w5.heap.size, 0, none⟩), .int .i64 0]) (by simp [results, Tryz.results15, go_sem]) rfl ⟨_, rfl, R.out⟩
set_option maxRecDepth 100000 in
set_option maxHeartbeats 4000000 in
theorem rwcopy_ok (x : Rx) (W : Wd) (w : World) (h : RW w x W) : Calls Tryz.prog 27 #[ptr x.r] w fun e w' => ∃ y : Rx, e = .returned (.pointer (some ⟨y.r, 0, none⟩)) ∧ RSt w w' y W := by
  have H := Lib.hid h
  have c0 := h.c0
  have FX : Hid (∀ V, Below w.heap.size w V → V.cell? ⟨x.r, 1, none⟩ = some (.pointer (some ⟨x.f, 0, none⟩)) ∧ V.cell? ⟨x.r, 2, none⟩ = some (.pointer (some ⟨x.p, 0, none⟩)) ∧ V.cell? ⟨x.r, 3, none⟩ = some (.pointer (some ⟨x.q, 0, none⟩)) ∧ V.cell? ⟨x.r, 4, none⟩ = some (.pointer (some ⟨x.s, 0, none⟩)) ∧ V.cell? ⟨x.r, 5, none⟩ = some (.pointer (some ⟨x.g, 0, none⟩)) ∧ V.cell? ⟨x.r, 6, none⟩ = some (.int .i64 W.T)) := fun V hV => by
    have k := (h.below hV).1
    exact ⟨k.c1, k.c2, k.c3, k.c4, k.c5, k.c6⟩
  have D0 := Lib.hid (bel_drew (Below.refl w.heap.size w))
  have C1 := Lib.hid (FD.dcopy_ok x.f x.fd W.F w.drew (h.below D0.out).1.hF)
  have C2 := Lib.hid (fun V (hV : Below w.heap.size w V) => BF.dcopy_ok x.p x.pd W.P V (h.below hV).1.hP)
  have C3 := Lib.hid (fun V (hV : Below w.heap.size w V) => LS.ecopy_ok x.q x.qc x.qd x.qg W.D V (h.below hV).1.hD)
  have C4 := Lib.hid (fun V (hV : Below w.heap.size w V) => rscopy_at x.s W.L V (h.below hV).1.hS)
  have C5 := Lib.hid (fun V (hV : Below w.heap.size w V) => rlcopy_ok x.g x.lo x.v W.B V (h.below hV).1.hL)
  clear h
  obtain ⟨T, hT⟩ : ∃ T, W.T = T := ⟨_, rfl⟩
  rw [hT] at FX
  have HT := Lib.hid hT
  clear hT
  unfold ptr
  go_enter Tryz.func27, Tryz.ntmps27
  go_wp2_with fail
  refine (rv_yes _ _ c0).mono ?_
  rintro e w' ⟨rfl, rfl⟩
  clear c0
  go_upto_region 3 with fail
  go_region_held3 (fun V => V.cell? ⟨x.r, 1, none⟩ = some (.pointer (some ⟨x.f, 0, none⟩)) ∧ V.cell? ⟨x.r, 2, none⟩ = some (.pointer (some ⟨x.p, 0, none⟩)) ∧ V.cell? ⟨x.r, 3, none⟩ = some (.pointer (some ⟨x.q, 0, none⟩)) ∧ V.cell? ⟨x.r, 4, none⟩ = some (.pointer (some ⟨x.s, 0, none⟩)) ∧ V.cell? ⟨x.r, 5, none⟩ = some (.pointer (some ⟨x.g, 0, none⟩)) ∧ V.cell? ⟨x.r, 6, none⟩ = some (.int .i64 T)) (first | (exact FX.out _ (bel2 B5.out (bel_new _ _))) | (with_reducible exact hz5) | (with_reducible exact hz4) | (with_reducible exact hz3) | (with_reducible exact hz2) | (with_reducible exact hz1) | (with_reducible exact FX.out _ D0.out)) (first
    | (go_at_call 87; refine C1.out.mono ?_; rintro e w1 ⟨f, rfl, hf⟩; have F1 := Lib.hid hf.out; have B1 := Lib.hid (bel2 D0.out F1.out.choose_spec.2.2.2); have hz1 := FX.out _ B1.out; clear hf)
    | (go_at_call 88; refine (C2.out _ B1.out).mono ?_; rintro e w2 ⟨p, rfl, hp⟩; have P1 := Lib.hid hp.out; have B2 := Lib.hid (bel2 B1.out P1.out.choose_spec.2.2.2); have hz2 := FX.out _ B2.out; clear hp)
    | (go_at_call 89; refine (C3.out _ B2.out).mono ?_; rintro e w3 ⟨q, rfl, hq⟩; have E1 := Lib.hid hq.out; have B3 := Lib.hid (bel2 B2.out E1.out.choose_spec.choose_spec.choose_spec.2.2); have hz3 := FX.out _ B3.out; clear hq)
    | (go_at_call 90; refine (C4.out _ B3.out).mono ?_; rintro e w4 ⟨s, s0, rfl, s1, s2, s3⟩; have S1 := Lib.hid (And.intro s0 (And.intro s1 (And.intro s2 s3))); have B4 := Lib.hid (bel2 B3.out s3); have hz4 := FX.out _ B4.out; clear s0 s1 s2 s3)
    | (go_at_call 91; refine (C5.out _ B4.out).mono ?_; rintro e w5 ⟨g, v, rfl, l1, l2⟩; have L1 := Lib.hid (And.intro l1.out l2.out); have B5 := Lib.hid (bel2 B4.out l2.out); have hz5 := FX.out _ B5.out; clear l1 l2))
  all_goals
    obtain ⟨fd, f1, f2, f3, f4⟩ := F1.out
    obtain ⟨pd, p1, p2, p3, p4⟩ := P1.out
    obtain ⟨qc, qd, qg, q1, q2, q3⟩ := E1.out
    obtain ⟨s0, s1, s2, s3⟩ := S1.out
    have R := Lib.hid (rassemble H.out.ok D0.out f1 f2 f3 f4 p1 p2 p3 p4 q1 q2 q3 s1 s0 s2 s3 L1.out.1 (Nat.le_refl _) L1.out.2)
    rw [HT.out] at R
    clear f1 f2 f3 f4 p1 p2 p3 p4 q1 q2 q3 s0 s1 s2 s3 F1 P1 E1 S1 L1
    go_wp2
    go_ret
    exact ⟨_, rfl, R.out⟩
end Go.Proofs.YtpinmiplefidpaaGreatDoor
