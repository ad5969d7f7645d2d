/- A world put together out of its parts; the contract of New. -/
import Derived.Test.YtpinmiplefidpaaGreatDoorOg
import Derived.Deep.RegionHeld3
namespace Go.Proofs.YtpinmiplefidpaaGreatDoor
open Go.RowKit

/-- A world whose parts are all new. -/
theorem assemble {w W' : World} (A : Ad) (U : Wd) (hok : U.Ok) (hB : Below w.heap.size w W') (hb : Bk W' A.b 63 #[ptr A.p]) (hp : Bk W' A.p 105 (pcells A U.T)) (hF : FD.FW W' A.f A.fk A.fm U.F) (hP : BF.PW W' A.q A.qs A.qk U.P) (hD : LS.DkW W' A.d A.dk A.da U.D)
    (hS : AN.SrcW 166 W' A.s U.L) (hL : LG.LedW W' A.l A.lb A.lo U.B) (n1 : A.fk ≠ A.qk) (n2 : A.fk ≠ A.dk) (n3 : A.qk ≠ A.dk) (nm : ¬ LG.Foot W' A.lb A.fm) (ns : ∀ g, ASl W' A.s g → ¬ LG.Foot W' A.lb g)
    (lb : w.heap.size ≤ A.b) (lp : w.heap.size ≤ A.p) (lF : ∀ g, FD.FFoot A.f A.fk A.fm g → w.heap.size ≤ g) (lP : ∀ g, BF.PFoot A.q A.qs A.qk g → w.heap.size ≤ g) (lD : ∀ g, LS.DFoot A.d A.dk A.da g → w.heap.size ≤ g) (lS : w.heap.size ≤ A.s) (lA : ∀ g, ASl W' A.s g → w.heap.size ≤ g) (ll : w.heap.size ≤ A.l) (lo : w.heap.size ≤ A.lo) : WSt w W' A U := by
  refine ⟨⟨hok, hb, hp, hF, hP, hD, hS, hL, n1, n2, n3, nm, ns⟩, hB, ?_⟩
  rintro g ((rfl | rfl) | e | e | e | (rfl | e) | rfl | e)
  · exact lb
  · exact lp
  · exact lF g e
  · exact lP g e
  · exact lD g e
  · exact lS
  · exact lA g e
  · exact ll
  · exact Nat.le_trans lo (hL.foot_le e).1
theorem wnew_bad (g : Int) (w : World) (hg : g = 0) : Calls Tryz.prog 14 #[.int .u32 g] w fun e w' => e = .returned (.tuple #[.pointer none, .int .i64 2]) ∧ w = w' := by
  subst hg
  go_enter Tryz.func14, Tryz.ntmps14
  go_wp2_with (go_at_call 50; refine (check_zero _).mono ?_; rintro e w' ⟨rfl, rfl⟩)
  exact bodyPost_ret (v := .tuple #[.pointer none, .int .i64 2]) (by simp [results, Tryz.results14, go_sem]) rfl ⟨rfl, rfl⟩
theorem tcells3 {w : World} {A : Nat} {x y z : Value} (h : Bk w A 101 #[x, y, z]) : w.cell? ⟨A, 0, none⟩ = some x ∧ w.cell? ⟨A, 1, none⟩ = some y ∧ w.cell? ⟨A, 2, none⟩ = some z := ⟨h.cell 0, h.cell 1, h.cell 2⟩
/-- New of answers: its slice is nil. -/
theorem anew_at (w : World) : Calls Tryz.prog 54 #[] w fun e w' => e = .returned (.pointer (some ⟨w.heap.size, 0, none⟩)) ∧ AN.SrcW 166 w' w.heap.size [] ∧ (∀ g, ¬ ASl w' w.heap.size g) ∧ Below w.heap.size w w' := by
  go_enter Tryz.func54, Tryz.ntmps54
  go_wp2
  go_ret
  refine ⟨rfl, ⟨AN.src_nil, _, _, Bk.new w _ _, AN.Sl.nil _⟩, ?_, bel_new _ _⟩
  rintro g ⟨a, n, c, h1, _⟩
  rw [(Bk.new w 166 #[.bool true, .slice none 0 0]).cell] at h1
  simp at h1
/-- Copy of answers: its slice is new, too. -/
theorem acopy_at (b : Nat) (L : List Int) (w : World) (h : AN.SrcW 166 w b L) : Calls Tryz.prog 85 #[.pointer (some ⟨b, 0, none⟩)] w fun e w' => ∃ b', w.heap.size ≤ b' ∧ e = .returned (.pointer (some ⟨b', 0, none⟩)) ∧ AN.SrcW 166 w' b' L ∧ (∀ g, ASl w' b' g → w.heap.size ≤ g) ∧ Below w.heap.size w w' := by
  obtain ⟨a, c, hc0, hc1, hf, hsl, hbk⟩ := h.cells
  have hle := h.ok.le
  have H := Lib.hid h
  have HS := Lib.hid hsl
  clear h hsl hbk
  go_enter Tryz.func85, Tryz.ntmps85
  go_wp2_with fail
  refine (AN.valid_yes _ _ hc0).mono ?_
  rintro e w' ⟨rfl, rfl⟩
  go_wp2_with fail
  refine (AN.clone_ok a L.length c L _ HS.out (by omega)).mono ?_
  rintro e w1 ⟨u, rfl, hown, hb1⟩
  have hsl1 := AN.Sl.of_own hown
  obtain ⟨a1, c1, rfl, hsl2⟩ := hsl1.len
  have HB1 := Lib.hid hb1
  have HV := Lib.hid hsl2
  have HO := Lib.hid hown
  clear hown hb1 hsl1 hsl2 hc0 hc1 hf
  go_wp2
  go_ret
  refine ⟨_, HB1.out.size, rfl, ⟨H.out.ok, a1, c1, Bk.new _ _ _, HV.out.below (bel_new _ _)⟩, ?_, HB1.out.alloc HB1.out.size _⟩
  rintro g ⟨a2, n2, c2, h1, rfl⟩
  rw [(Bk.new w1 166 #[.bool true, .slice a1 L.length c1]).cell] at h1
  have e2 : a1 = some a2 := by
    have := Option.some.inj h1
    injection this
  subst e2
  exact (HO.out.lt a2.block rfl).1
/-- The two boxes at the end of New and of Copy. -/
theorem boxed {w W : World} (A : Ad) (U : Wd) (hA : A.p = W.heap.size ∧ A.b = W.heap.size + 1) (hok : U.Ok) (hB : Below w.heap.size w W) (hF : FD.FW W A.f A.fk A.fm U.F) (hP : BF.PW W A.q A.qs A.qk U.P) (hD : LS.DkW W A.d A.dk A.da U.D)
    (hS : AN.SrcW 166 W A.s U.L) (hL : LG.LedW W A.l A.lb A.lo U.B) (n1 : A.fk ≠ A.qk) (n2 : A.fk ≠ A.dk) (n3 : A.qk ≠ A.dk) (nm : ¬ LG.Foot W A.lb A.fm) (ns : ∀ g, ASl W A.s g → ¬ LG.Foot W A.lb g)
    (lF : ∀ g, FD.FFoot A.f A.fk A.fm g → w.heap.size ≤ g) (lP : ∀ g, BF.PFoot A.q A.qs A.qk g → w.heap.size ≤ g) (lD : ∀ g, LS.DFoot A.d A.dk A.da g → w.heap.size ≤ g) (lS : w.heap.size ≤ A.s) (lA : ∀ g, ASl W A.s g → w.heap.size ≤ g) (ll : w.heap.size ≤ A.l) (lo : w.heap.size ≤ A.lo) :
    WSt w ((W.alloc (.cells (pcells A U.T) 105)).alloc (.cells #[ptr W.heap.size] 63)) A U := by
  obtain ⟨e1, e2⟩ := hA
  have hs := hB.size
  have b0 : Below W.heap.size W ((W.alloc (.cells (pcells A U.T) 105)).alloc (.cells #[ptr W.heap.size] 63)) := bel_alloc (bel_new W _) _
  have b1 := (Bk.new W 105 (pcells A U.T)).up (.cells #[ptr W.heap.size] 63)
  have b2 := Bk.new (W.alloc (.cells (pcells A U.T) 105)) 63 #[ptr W.heap.size]
  rw [World.size_alloc, ← e2] at b2
  have b1' : Bk ((W.alloc (.cells (pcells A U.T) 105)).alloc (.cells #[ptr W.heap.size] 63)) A.p 105 (pcells A U.T) := by
    generalize hv : ptr W.heap.size = v at *
    rw [e1]; exact b1
  obtain ⟨hL', hf⟩ := hL.below b0
  have hA : ∀ g, ASl ((W.alloc (.cells (pcells A U.T) 105)).alloc (.cells #[ptr W.heap.size] 63)) A.s g ↔ ASl W A.s g := fun g => ASl.same (b0.block _ hS.lt)
  refine assemble A U hok (hB.trans (b0.mono hs)) (by rw [e1]; exact b2) b1' (hF.below b0) (hP.below b0) (hD.below b0) (hS.below b0) hL' n1 n2 n3 (fun x => nm ((hf _).1 x)) (fun g hg x => ns g ((hA g).1 hg) ((hf g).1 x)) (by omega) (by omega) lF lP lD lS (fun g hg => lA g ((hA g).1 hg)) ll lo
theorem new_end {w w1 w2 w3 w4 W : World} {g f q d s l lb lo : Nat} (h1 : 1 ≤ g) (h2 : g ≤ 4294967295) (N1 : FD.FNew (FD.ffresh 64 g) w f w1) (N2 : BF.PNew (BF.pfresh 64 1048576 g) w1 q w2) (N3 : LS.DNew (LS.dfresh 64 g) w2 d w3) (B4 : Below w3.heap.size w3 w4) (BW : Below w4.heap.size w4 W)
    (hS : AN.SrcW 166 W s []) (hN : ∀ g, ¬ ASl W s g) (hL : LG.LedW W l lb lo []) (ls : w4.heap.size ≤ s) (ll : w4.heap.size ≤ l) (llo : w4.heap.size ≤ lo) :
    ∃ A : Ad, Ending.returned (.tuple #[.pointer (some ⟨W.heap.size + 1, 0, none⟩), .int .i64 0]) = .returned (.tuple #[ptr A.b, .int .i64 0]) ∧ WSt w ((W.alloc (.cells #[.iface 94 (.agg #[.pointer (some ⟨f, 0, none⟩)]), .iface 96 (.agg #[.pointer (some ⟨q, 0, none⟩)]), .iface 98 (.agg #[.pointer (some ⟨d, 0, none⟩)]), .pointer (some ⟨s, 0, none⟩), .pointer (some ⟨l, 0, none⟩), .int .i64 0] 105)).alloc (.cells #[.pointer (some ⟨W.heap.size, 0, none⟩)] 63)) A (wfresh g) := by
  obtain ⟨fk, fm, f1, f2, f3⟩ := N1
  obtain ⟨qs, qk, q1, q2, q3⟩ := N2
  obtain ⟨dk, da, d1, d2, d3⟩ := N3
  have B3 : Below w3.heap.size w3 W := B4.trans (BW.mono B4.size)
  have B2 : Below w2.heap.size w2 W := d3.trans (B3.mono d3.size)
  have B1 : Below w1.heap.size w1 W := q3.trans (B2.mono q3.size)
  have B0 : Below w.heap.size w W := f3.trans (B1.mono f3.size)
  have z1 := f3.size
  have z2 := q3.size
  have z3 := d3.size
  have z4 := B4.size
  have k1 := f1.foot_lt (g := fk) (.inr (.inl rfl))
  have k2 := q1.foot_lt (g := qk) (.inr (.inr rfl))
  have k3 := q2 qk (.inr (.inr rfl))
  have k4 := d2 dk (.inr (.inl rfl))
  have k5 := f1.foot_lt (g := fm) (.inr (.inr rfl))
  refine ⟨⟨W.heap.size + 1, W.heap.size, f, fk, fm, q, qs, qk, d, dk, da, s, l, lb, lo⟩, rfl, ?_⟩
  exact boxed (⟨W.heap.size + 1, W.heap.size, f, fk, fm, q, qs, qk, d, dk, da, s, l, lb, lo⟩ : Ad) (wfresh g) ⟨rfl, rfl⟩ (wfresh_ok h1 h2) B0 (f1.below B1) (q1.below B2) (d1.below B3) hS hL (by show fk ≠ qk; omega) (by show fk ≠ dk; omega) (by show qk ≠ dk; omega)
    (fun x => by have := (hL.foot_le x).1; have : lo ≤ fm := this; omega) (fun g hg => absurd hg (hN g)) f2 (fun g hg => Nat.le_trans z1 (q2 g hg)) (fun g hg => Nat.le_trans (by omega) (d2 g hg)) (by show w.heap.size ≤ s; omega) (fun g hg => absurd hg (hN g)) (by show w.heap.size ≤ l; omega) (by show w.heap.size ≤ lo; omega)
set_option maxRecDepth 100000 in
set_option maxHeartbeats 1000000 in
theorem wnew_ok (g : Nat) (w : World) (h1 : 1 ≤ g) (h2 : g ≤ 4294967295) : Calls Tryz.prog 14 #[.int .u32 g] w fun e w' => ∃ A, e = .returned (.tuple #[ptr A.b, .int .i64 0]) ∧ WSt w w' A (wfresh g) := by
  go_enter Tryz.func14, Tryz.ntmps14
  go_wp2_with fail
  refine (check_ok _ _ (by omega) (by omega)).mono ?_
  rintro e w' ⟨rfl, rfl⟩
  go_wp2_with fail
  refine (FD.fnew_ok 64 g w (by omega) (by omega) h1 h2).mono ?_
  rintro e w1 ⟨f, rfl, hn1⟩
  have N1 := Lib.hid hn1
  clear hn1
  go_wp2_with fail
  refine (BF.pnew_ok 64 1048576 g w1 (by omega) (by omega) h1 h2 (by omega) (by omega)).mono ?_
  rintro e w2 ⟨q, rfl, hn2⟩
  have N2 := Lib.hid hn2
  clear hn2
  go_wp2_with fail
  refine (LS.dnew_ok 64 g w2 (by omega) (by omega) h1 h2).mono ?_
  rintro e w3 ⟨d, rfl, hn3⟩
  have N3 := Lib.hid hn3
  clear hn3
  go_wp2_with fail
  have T4 := Lib.hid (Bk.new w3 101 #[vF f, vP q, vD d])
  have B4 := Lib.hid (bel_new w3 (.cells #[vF f, vP q, vD d] 101))
  have e4 : (w3.alloc (.cells #[vF f, vP q, vD d] 101)).heap.size = w3.heap.size + 1 := by simp
  unfold vF vP vD at *
  generalize w3.alloc (.cells #[.iface 94 (.agg #[.pointer (some ⟨f, 0, none⟩)]), .iface 96 (.agg #[.pointer (some ⟨q, 0, none⟩)]), .iface 98 (.agg #[.pointer (some ⟨d, 0, none⟩)])] 101) = w4 at *
  have D0 := Lib.hid (bel_drew (Below.refl w4.heap.size w4))
  have E4 := Lib.hid e4
  clear e4
  have S0 := tcells3 (T4.out.below D0.out)
  go_region_held3 (fun W => W.cell? ⟨w3.heap.size, 0, none⟩ = some (.iface 94 (.agg #[.pointer (some ⟨f, 0, none⟩)])) ∧ W.cell? ⟨w3.heap.size, 1, none⟩ = some (.iface 96 (.agg #[.pointer (some ⟨q, 0, none⟩)])) ∧ W.cell? ⟨w3.heap.size, 2, none⟩ = some (.iface 98 (.agg #[.pointer (some ⟨d, 0, none⟩)])))
    (first | exact S0 | (with_reducible exact hz1) | (with_reducible exact hz2) | (with_reducible exact tcells3 ((T4.out.below BL.out).up _)) | (with_reducible exact tcells3 ((T4.out.below BA.out).up _)) | (with_reducible exact tcells3 (((T4.out.below BL.out).up _).up _)) | (with_reducible exact tcells3 (((T4.out.below BA.out).up _).up _))) (first
    | (go_at_call 54; refine (anew_at _).mono ?_; rintro e wa ⟨rfl, ha, hna, hb⟩; have BA : Hid (Below w4.heap.size w4 wa) := (by first | exact bel2 BL.out hb | exact bel2 D0.out hb); have hz1 := tcells3 (T4.out.below BA.out); have HA := Lib.hid ha; have HN := Lib.hid hna; have HBA := Lib.hid hb; clear ha hna hb)
    | (go_at_call 55; refine (LG.new_ok _).mono ?_; rintro e wl ⟨rfl, hl, hb⟩; have BL : Hid (Below w4.heap.size w4 wl) := (by first | exact bel2 BA.out hb | exact bel2 D0.out hb); have hz2 := tcells3 (T4.out.below BL.out); have HL := Lib.hid hl; have HBL := Lib.hid hb; clear hl hb))
  all_goals go_wp2
  · have z := HBA.out.size
    have HS := HA.out.below HBL.out
    obtain ⟨A, e1, e2⟩ := new_end h1 h2 N1.out N2.out N3.out B4.out BL.out HS (fun g hg => HN.out g ((ASl.same (HBL.out.block _ HA.out.lt)).1 hg)) HL.out (Nat.le_refl _) (Nat.le_trans z (Nat.le_add_right _ _)) z
    exact bodyPost_ret (v := .tuple #[.pointer (some ⟨wl.heap.size + 1, 0, none⟩), .int .i64 0]) (by simp [results, Tryz.results14, go_sem]) rfl ⟨A, e1, e2⟩
end Go.Proofs.YtpinmiplefidpaaGreatDoor
