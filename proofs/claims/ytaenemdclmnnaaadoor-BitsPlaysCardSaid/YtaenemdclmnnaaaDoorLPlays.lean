/- The walk of the statement BitsPlays: it returns true for all sizes and lists of steps. -/
import Derived.Test.YtaenemdclmnnaaaDoorBq
import Derived.Deep.RegionHeld3
namespace Go.Proofs.YtaenemdclmnnaaaDoor
open Go.RowKit

def nilP : Pr := ⟨false, none, none, 0, 0, 0, 0⟩
theorem PR.nil (w : World) (n : Nat) (F H : Nat → Bool) : PR w nilP n F H := ⟨fun _ => ⟨rfl, rfl⟩, fun e => by cases e⟩
theorem Dis.nil (P : Pr) : Dis P nilP := fun _ e => by cases e
theorem PSt.swap {w0 w : World} {P T O : Pr} {n m k : Nat} {F Ft Fo : Nat → Bool} (a : PSt w0 w P T O n m k F F Ft Fo) (hd : Dis T nilP) (ge : T.ok = true → w0.heap.size ≤ T.g ∧ w0.heap.size ≤ T.d ∧ w0.heap.size ≤ T.c) (j : Nat) (G : Nat → Bool) : PSt w0 w T P nilP m n j Ft Ft F G :=
  ⟨a.t, a.p, PR.nil _ _ _ _, fun e1 e2 => by obtain ⟨h1, h2, h3⟩ := a.d1 e2 e1; exact ⟨fun e => h1 e.symm, fun e => h2 e.symm, fun e => h3 e.symm⟩, hd, ge, a.tab, a.bel, a.x0⟩

/-- What both copies make of the pair: the old one is kept. -/
theorem PSt.copied {w0 w w1 w2 : World} {P T O : Pr} {n m : Nat} {F Ft Fo : Nat → Bool} {v u : Option Addr} {b g c d : Nat} (a : PSt w0 w P T O n m n F F Ft Fo)
    (n1 : P.ok = false → v = none) (y1 : P.ok = true → v = some ⟨b, 0, none⟩ ∧ SetW w1 b g n F ∧ w.heap.size ≤ b ∧ w.heap.size ≤ g) (hb1 : Below w.heap.size w w1)
    (n2 : P.ok = false → u = none) (y2 : P.ok = true → u = some ⟨c, 0, none⟩ ∧ RefW w2 c d n F ∧ w1.heap.size ≤ c ∧ w1.heap.size ≤ d) (hb2 : Below w1.heap.size w1 w2) :
    PSt w0 w2 ⟨P.ok, v, u, b, g, c, d⟩ T P n m n F F Ft F := by
  have q := a.quiet (bel2 hb1 hb2)
  have s1 := hb1.size
  have s0 := a.bel.size
  refine ⟨⟨fun e => ⟨n1 e, n2 e⟩, fun e => ?_⟩, q.t, q.p, fun e1 e2 => ?_, fun e1 _ => ?_, fun e1 => ?_, q.tab, q.bel, q.x0⟩
  · obtain ⟨h1, h2, _, _⟩ := y1 e
    obtain ⟨h3, h4, _, _⟩ := y2 e
    exact ⟨h1, h3, h2.below hb2, h4⟩
  · obtain ⟨_, _, _, h2⟩ := y1 e1
    obtain ⟨_, _, h3, h4⟩ := y2 e1
    obtain ⟨_, _, t1, t2⟩ := a.t.yes e2
    have := t1.gt
    have := t2.bt
    have := t2.gt
    exact ⟨by show g ≠ T.g; omega, by show d ≠ T.d; omega, by show c ≠ T.c; omega⟩
  · obtain ⟨_, _, _, h2⟩ := y1 e1
    obtain ⟨_, _, h3, h4⟩ := y2 e1
    obtain ⟨_, _, t1, t2⟩ := a.p.yes e1
    have := t1.gt
    have := t2.bt
    have := t2.gt
    exact ⟨by show g ≠ P.g; omega, by show d ≠ P.d; omega, by show c ≠ P.c; omega⟩
  · obtain ⟨_, _, _, h2⟩ := y1 e1
    obtain ⟨_, _, h3, h4⟩ := y2 e1
    exact ⟨by show w0.heap.size ≤ g; omega, by show w0.heap.size ≤ d; omega, by show w0.heap.size ≤ c; omega⟩

/-- Between the two calls of a step: the step's own block beside the state. -/
def Mid (w0 w : World) (P T O : Pr) (n m k : Nat) (F H Ft Fo : Nat → Bool) (X : Nat) (cs : Array Value) : Prop := PSt w0 w P T O n m k F H Ft Fo ∧ Bk w X 32 cs
section
variable {w0 W0 W : World} {P T O : Pr} {n m k X : Nat} {F H Ft Fo : Nat → Bool} {cs : Array Value}
theorem Mid.draws (a : Mid w0 W0 P T O n m k F H Ft Fo X cs) (e1 : W.heap = W0.heap) (e2 : W.os = W0.os) (e3 : W.tape = W0.tape) (e4 : W.output = W0.output) : Mid w0 W P T O n m k F H Ft Fo X cs :=
  ⟨a.1.quiet (Below.draws e2 e3 e4 e1 _), by have h2 := a.2; unfold Bk at h2 ⊢; rw [e1]; exact h2⟩
theorem Mid.quiet (a : Mid w0 W0 P T O n m k F H Ft Fo X cs) (b : Below W0.heap.size W0 W) : Mid w0 W P T O n m k F H Ft Fo X cs := ⟨a.1.quiet b, a.2.below b⟩
theorem Mid.step {F' H' : Nat → Bool} (a : Mid w0 W0 P T O n m k F H Ft Fo X cs) (b : Kept (Tch P) W0 W) (hp : PR W P n F' H') : Mid w0 W P T O n m k F' H' Ft Fo X cs := ⟨a.1.step b hp, a.2.farP a.1.p b⟩
theorem mid_add (i E : Int) (hE : okE P.ok n i = E) (a : Hid (Mid w0 W0 P T O n m k F H Ft Fo X cs)) (e1 : W.heap = W0.heap) (e2 : W.os = W0.os) (e3 : W.tape = W0.tape) (e4 : W.output = W0.output) :
    Calls Tryd.prog 13 #[.pointer P.v, .int .i64 i] W fun e w' => e = .returned (.int .i64 E) ∧ Hid (Mid w0 w' P T O n m k (setF F n i true) H Ft Fo X cs) ∧ w'.cell? ⟨X, 1, none⟩ = cs[1]? := by
  have a2 := a.out.draws e1 e2 e3 e4
  refine (p_add W P n F H i a2.1.p).mono ?_
  rintro e w' ⟨h1, h2, h3⟩
  have a3 := a2.step (tch_g h3) h2
  exact ⟨by rw [h1, hE], a3, a3.2.cell 1⟩
theorem mid_radd (i E : Int) (hE : okE P.ok n i = E) (a : Hid (Mid w0 W0 P T O n m k F H Ft Fo X cs)) (e1 : W.heap = W0.heap) (e2 : W.os = W0.os) (e3 : W.tape = W0.tape) (e4 : W.output = W0.output) :
    Calls Tryd.prog 14 #[.pointer P.u, .int .i64 i] W fun e w' => e = .returned (.int .i64 E) ∧ Hid (Mid w0 w' P T O n m k F (setF H n i true) Ft Fo X cs) ∧ w'.cell? ⟨X, 1, none⟩ = cs[1]? := by
  have a2 := a.out.draws e1 e2 e3 e4
  refine (p_radd W P n F H i a2.1.p).mono ?_
  rintro e w' ⟨h1, h2, h3⟩
  have a3 := a2.step (tch_d h3) h2
  exact ⟨by rw [h1, hE], a3, a3.2.cell 1⟩
theorem mid_remove (i E : Int) (hE : okE P.ok n i = E) (a : Hid (Mid w0 W0 P T O n m k F H Ft Fo X cs)) (e1 : W.heap = W0.heap) (e2 : W.os = W0.os) (e3 : W.tape = W0.tape) (e4 : W.output = W0.output) :
    Calls Tryd.prog 15 #[.pointer P.v, .int .i64 i] W fun e w' => e = .returned (.int .i64 E) ∧ Hid (Mid w0 w' P T O n m k (setF F n i false) H Ft Fo X cs) ∧ w'.cell? ⟨X, 1, none⟩ = cs[1]? := by
  have a2 := a.out.draws e1 e2 e3 e4
  refine (p_remove W P n F H i a2.1.p).mono ?_
  rintro e w' ⟨h1, h2, h3⟩
  have a3 := a2.step (tch_g h3) h2
  exact ⟨by rw [h1, hE], a3, a3.2.cell 1⟩
theorem mid_rremove (i E : Int) (hE : okE P.ok n i = E) (a : Hid (Mid w0 W0 P T O n m k F H Ft Fo X cs)) (e1 : W.heap = W0.heap) (e2 : W.os = W0.os) (e3 : W.tape = W0.tape) (e4 : W.output = W0.output) :
    Calls Tryd.prog 16 #[.pointer P.u, .int .i64 i] W fun e w' => e = .returned (.int .i64 E) ∧ Hid (Mid w0 w' P T O n m k F (setF H n i false) Ft Fo X cs) ∧ w'.cell? ⟨X, 1, none⟩ = cs[1]? := by
  have a2 := a.out.draws e1 e2 e3 e4
  refine (p_rremove W P n F H i a2.1.p).mono ?_
  rintro e w' ⟨h1, h2, h3⟩
  have a3 := a2.step (tch_d h3) h2
  exact ⟨by rw [h1, hE], a3, a3.2.cell 1⟩
theorem mid_union (E : Int) (hE : coE P T n m = E) (a : Hid (Mid w0 W P T O n m k F H Ft Fo X cs)) :
    Calls Tryd.prog 19 #[.pointer P.v, .pointer T.v] W fun e w' => e = .returned (.int .i64 E) ∧ Hid (Mid w0 w' P T O n m k (coF P T n m F (un F Ft)) H Ft Fo X cs) := by
  refine (p_co true W P T n m F H Ft Ft a.out.1.p a.out.1.t a.out.1.d1).mono ?_
  rintro e w' ⟨h1, h2, h3⟩
  exact ⟨by rw [h1, hE], a.out.step (tch_g h3) h2⟩
theorem mid_minus (E : Int) (hE : coE P T n m = E) (a : Hid (Mid w0 W P T O n m k F H Ft Fo X cs)) :
    Calls Tryd.prog 21 #[.pointer P.v, .pointer T.v] W fun e w' => e = .returned (.int .i64 E) ∧ Hid (Mid w0 w' P T O n m k (coF P T n m F (mi F Ft)) H Ft Fo X cs) := by
  refine (p_co false W P T n m F H Ft Ft a.out.1.p a.out.1.t a.out.1.d1).mono ?_
  rintro e w' ⟨h1, h2, h3⟩
  exact ⟨by rw [h1, hE], a.out.step (tch_g h3) h2⟩
theorem mid_runion (E : Int) (hE : coE P T n m = E) (a : Hid (Mid w0 W P T O n m k F H Ft Fo X cs)) :
    Calls Tryd.prog 20 #[.pointer P.u, .pointer T.u] W fun e w' => ∃ z, e = .returned (.int .i64 z) ∧ z = E ∧ Hid (Mid w0 w' P T O n m k F (coF P T n m H (un H Ft)) Ft Fo X cs) := by
  refine runion_of P.u T.u W (fun z w' => z = E ∧ Hid (Mid w0 w' P T O n m k F (coF P T n m H (un H Ft)) Ft Fo X cs)) ((p_rall true W P T n m F H Ft Ft a.out.1.p a.out.1.t).mono ?_)
  rintro e w' ⟨z, h0, h1, h2, h3⟩
  exact ⟨z, h0, by rw [h1, hE], a.out.step (tch_d h3) h2⟩
theorem mid_rminus (E : Int) (hE : coE P T n m = E) (a : Hid (Mid w0 W P T O n m k F H Ft Fo X cs)) :
    Calls Tryd.prog 22 #[.pointer P.u, .pointer T.u] W fun e w' => ∃ z, e = .returned (.int .i64 z) ∧ z = E ∧ Hid (Mid w0 w' P T O n m k F (coF P T n m H (mi H Ft)) Ft Fo X cs) := by
  refine rminus_of P.u T.u W (fun z w' => z = E ∧ Hid (Mid w0 w' P T O n m k F (coF P T n m H (mi H Ft)) Ft Fo X cs)) ((p_rall false W P T n m F H Ft Ft a.out.1.p a.out.1.t).mono ?_)
  rintro e w' ⟨z, h0, h1, h2, h3⟩
  exact ⟨z, h0, by rw [h1, hE], a.out.step (tch_d h3) h2⟩
end

set_option maxRecDepth 100000 in
set_option maxHeartbeats 16000000 in
theorem plays_core (sz ot : Int) (a : Option Addr) (len cap : Nat) (dos : Nat → Nat) (is : Nat → Int) (a2 : Option Addr) (len2 cap2 : Nat) (dos2 : Nat → Nat) (is2 : Nat → Int) (w : World) (hl : len ≤ 60) (hl2 : len2 ≤ 60) (hu : StepsA w a len dos is) (hu2 : StepsA w a2 len2 dos2 is2) (hT : Tab w) :
    Calls Tryd.prog 3 #[.int .i64 sz, .int .i64 ot, .slice a len cap, .slice a2 len2 cap2] w fun e w' => e = .returned (.bool true) ∧ Below w.heap.size w w' := by
  have HU := Lib.hid hu
  have HU2 := Lib.hid hu2
  have HT := Lib.hid hT
  clear hT hu hu2
  go_enter Tryd.func3, Tryd.ntmps3
  go_wp2_with fail
  refine (p_new sz _).mono ?_
  rintro e w1 ⟨v1, b1, g1, rfl, n1, y1, hb1⟩
  have N1 := Lib.hid n1
  have Y1 := Lib.hid y1
  have B1 := Lib.hid hb1
  clear n1 y1 hb1
  go_wp2_with fail
  refine (p_rnew sz _).mono ?_
  rintro e w2 ⟨u1, c1, d1, rfl, n2, y2, hb2⟩
  have N2 := Lib.hid n2
  have Y2 := Lib.hid y2
  have B2 := Lib.hid hb2
  clear n2 y2 hb2
  go_wp2_with fail
  refine (p_new ot _).mono ?_
  rintro e w3 ⟨v2, b2, g2, rfl, n3, y3, hb3⟩
  have N3 := Lib.hid n3
  have Y3 := Lib.hid y3
  have B3 := Lib.hid hb3
  clear n3 y3 hb3
  go_wp2_with fail
  refine (p_rnew ot _).mono ?_
  rintro e w4 ⟨u2, c2, d2, rfl, n4, y4, hb4⟩
  have N4 := Lib.hid n4
  have Y4 := Lib.hid y4
  have B4 := Lib.hid hb4
  clear n4 y4 hb4
  have hE : ∃ x1 x2 : Bool, v1.isNone = x1 ∧ u1.isNone = x1 ∧ v2.isNone = x2 ∧ u2.isNone = x2 ∧ okN ot = !x2 := by
    refine ⟨!okN sz, !okN ot, ?_, ?_, ?_, ?_, by simp⟩
    · cases h : okN sz
      · rw [N1.out h]; rfl
      · rw [(Y1.out h).1]; rfl
    · cases h : okN sz
      · rw [N2.out h]; rfl
      · rw [(Y2.out h).1]; rfl
    · cases h : okN ot
      · rw [N3.out h]; rfl
      · rw [(Y3.out h).1]; rfl
    · cases h : okN ot
      · rw [N4.out h]; rfl
      · rw [(Y4.out h).1]; rfl
  obtain ⟨x1, x2, q1, q2, q3, q4, q5⟩ := hE
  have Q5 := Lib.hid q5
  clear q5
  go_wp2
  obtain ⟨P, hP⟩ : ∃ P : Pr, P = ⟨okN sz, v1, u1, b1, g1, c1, d1⟩ := ⟨_, rfl⟩
  obtain ⟨T, hT⟩ : ∃ T : Pr, T = ⟨okN ot, v2, u2, b2, g2, c2, d2⟩ := ⟨_, rfl⟩
  have hinit : PSt w w4 P T nilP sz.toNat ot.toNat sz.toNat (fun _ => false) (fun _ => false) (fun _ => false) (fun _ => false) ∧ Dis T nilP ∧ (T.ok = true → w.heap.size ≤ T.g ∧ w.heap.size ≤ T.d ∧ w.heap.size ≤ T.c) := by
    subst hP hT
    have s1 := B1.out.size
    have s2 := B2.out.size
    have s3 := B3.out.size
    have hb24 := bel2 B3.out B4.out
    have hb4 : Below w.heap.size w w4 := bel2 (bel2 B1.out B2.out) hb24
    refine ⟨⟨⟨fun e => ⟨N1.out e, N2.out e⟩, fun e => ?_⟩, ⟨fun e => ⟨N3.out e, N4.out e⟩, fun e => ?_⟩, PR.nil _ _ _ _, fun e1 e2 => ?_, Dis.nil _, fun e => ?_, HT.out.below hb4, hb4, HT.out.lt⟩, Dis.nil _, fun e => ?_⟩
    · obtain ⟨h1, h2, _⟩ := Y1.out e
      obtain ⟨h3, h4, _⟩ := Y2.out e
      exact ⟨h1, h3, (h2.below B2.out).below hb24, h4.below hb24⟩
    · obtain ⟨h1, h2, _⟩ := Y3.out e
      obtain ⟨h3, h4, _⟩ := Y4.out e
      exact ⟨h1, h3, h2.below B4.out, h4⟩
    · obtain ⟨_, h2, _⟩ := Y1.out e1
      obtain ⟨_, h4, _⟩ := Y2.out e1
      obtain ⟨_, _, _, k1⟩ := Y3.out e2
      obtain ⟨_, _, k2, k3⟩ := Y4.out e2
      have := h2.gt
      have := h4.gt
      have := h4.bt
      exact ⟨by show g1 ≠ g2; omega, by show d1 ≠ d2; omega, by show c1 ≠ c2; omega⟩
    · obtain ⟨_, _, _, h2⟩ := Y1.out e
      obtain ⟨_, _, h3, h4⟩ := Y2.out e
      exact ⟨by show w.heap.size ≤ g1; omega, by show w.heap.size ≤ d1; omega, by show w.heap.size ≤ c1; omega⟩
    · obtain ⟨_, _, _, h2⟩ := Y3.out e
      obtain ⟨_, _, h3, h4⟩ := Y4.out e
      exact ⟨by show w.heap.size ≤ g2; omega, by show w.heap.size ≤ d2; omega, by show w.heap.size ≤ c2; omega⟩
  have I4 := Lib.hid hinit.1
  have TN := Lib.hid hinit.2
  have V1 : Hid (v1 = P.v ∧ u1 = P.u) := by subst hP; exact ⟨rfl, rfl⟩
  have V2 : Hid (v2 = T.v ∧ u2 = T.u ∧ T.ok = !x2) := by subst hT; exact ⟨rfl, rfl, Q5.out⟩
  clear hinit hP hT N1 N2 N3 N4 Y1 Y2 Y3 Y4 B1 B2 B3 B4 Q5
  obtain ⟨e1, e2⟩ := V1.out
  subst e1
  subst e2
  obtain ⟨e1, e2, _⟩ := V2.out
  subst e1
  subst e2
  clear V1
  generalize sz.toNat = n at *
  generalize ot.toNat = m at *
  go_loopw [78] (fun i wr => ∃ (k : Nat) (Ft : Nat → Bool), k ≤ len2 ∧ i = .int .i64 k ∧ Hid (PSt w wr P T nilP n m n (fun _ => false) (fun _ => false) Ft (fun _ => false))) (fun i _ => len2 - (intOf i).toNat)
  case atStart => exact ⟨0, _, Nat.zero_le _, rfl, I4.out⟩
  case round =>
    obtain ⟨k, Ft, hk, rfl, HS⟩ := hrel
    by_cases hlt : k < len2
    · obtain ⟨B, off, rfl, hB, hcells⟩ := (HU2.out.below HS.out.bel).at_ (by omega)
      obtain ⟨hc0, hc1⟩ := hcells k hlt
      have hD := HU2.out.lt k hlt
      have hx := HU2.out.bd k hlt
      generalize dos2 k = D at *
      generalize is2 k = x at *
      have HM0 : Hid (Mid w (wr.alloc (.cells #[.int .u8 D, .int .i64 x] 32)) T P nilP m n n Ft Ft (fun _ => false) (fun _ => false) wr.heap.size #[.int .u8 D, .int .i64 x]) :=
        ⟨(HS.out.swap TN.out.1 TN.out.2 n (fun _ => false)).quiet ((Below.refl _ wr).alloc (Nat.le_refl _) _) |> fun h => ⟨h.p, h.t, h.o, h.d1, h.d2, h.ge, h.tab, h.bel, h.x0⟩, Bk.new wr _ _⟩
      obtain ⟨E, hE⟩ : ∃ E, okE T.ok m x = E := ⟨_, rfl⟩
      have HE := Lib.hid hE
      clear hE hcells
      go_wp2
      clear hc0 hc1
      cases x2
      · have hz0 : (wr.alloc (.cells #[.int .u8 D, .int .i64 x] 32)).cell? ⟨wr.heap.size, 1, none⟩ = some (.int .i64 x) := HM0.out.2.cell 1
        go_region_held3 (fun W => W.cell? ⟨wr.heap.size, 1, none⟩ = some (.int .i64 x)) (first | exact hz0 | exact hz1 | exact hz2)
          (first
          | (go_at_call 13; refine (mid_add x E HE.out HM0 (by rfl) (by rfl) (by rfl) (by rfl)).mono ?_; rintro e w6 ⟨rfl, HM1, hz1⟩)
          | (go_at_call 14; refine (mid_radd x E HE.out HM1 (by rfl) (by rfl) (by rfl) (by rfl)).mono ?_; rintro e w7 ⟨rfl, HM2, hz2⟩))
        go_wp2
        go_roundw
        case rel => exact ⟨k + 1, _, by omega, by go_num, HM2.out.1.swap (Dis.nil _) HS.out.ge n (fun _ => false)⟩
        case measure => simp [intOf]; omega
      · go_quiet (fail)
        go_wp2
        go_roundw
        case rel => exact ⟨k + 1, _, by omega, by go_num, (HM0.out.quiet (bel_drewN (Below.refl _ _) _)).1.swap (Dis.nil _) HS.out.ge n (fun _ => false)⟩
        case measure => simp [intOf]; omega
    · obtain rfl : k = len2 := by omega
      go_wp2
      go_loopw [9, 11, 19, 20, 98] (fun a9 a11 a19 a20 i wr => ∃ (k : Nat) (P' O' : Pr) (F' Fo' : Nat → Bool), k ≤ len ∧ i = .int .i64 k ∧ a9 = .pointer P'.v ∧ a11 = .pointer P'.u ∧ a19 = .pointer O'.v ∧ a20 = .pointer O'.u ∧ Hid (PSt w wr P' T O' n m n F' F' Ft Fo')) (fun _ _ _ _ i _ => len - (intOf i).toNat)
      case atStart => exact ⟨0, P, nilP, _, _, Nat.zero_le _, rfl, rfl, rfl, rfl, rfl, HS.out⟩
      case round =>
        clear HS I4 TN
        obtain ⟨k, P', O', F', Fo', hk, rfl, rfl, rfl, rfl, rfl, HS⟩ := hrel
        by_cases hlt : k < len
        · obtain ⟨B, off, rfl, hB, hcells⟩ := (HU.out.below HS.out.bel).at_ (by omega)
          obtain ⟨hc0, hc1⟩ := hcells k hlt
          have hD := HU.out.lt k hlt
          have hx := HU.out.bd k hlt
          generalize dos k = D at *
          generalize is k = x at *
          have HM0 : Hid (Mid w (wr.alloc (.cells #[.int .u8 D, .int .i64 x] 32)) P' T O' n m n F' F' Ft Fo' wr.heap.size #[.int .u8 D, .int .i64 x]) :=
            ⟨HS.out.quiet ((Below.refl _ wr).alloc (Nat.le_refl _) _), Bk.new wr _ _⟩
          have HX := Lib.hid hx.2
          have hz0 : (wr.alloc (.cells #[.int .u8 D, .int .i64 x] 32)).cell? ⟨wr.heap.size, 1, none⟩ = some (.int .i64 x) := HM0.out.2.cell 1
          have HZ0 := Lib.hid hz0
          clear hcells hz0
          obtain ⟨r, hr⟩ : ∃ r : Nat, D % 6 = r := ⟨_, rfl⟩
          have hrl : r < 6 := by omega
          have ht : (D : Int).tmod 6 = r := by rw [Int.tmod_eq_emod_of_nonneg (by omega)]; omega
          have ht2 : (D : Int) % 6 = r := by omega
          clear hr
          obtain rfl | rfl | rfl | rfl | rfl | rfl : r = 0 ∨ r = 1 ∨ r = 2 ∨ r = 3 ∨ r = 4 ∨ r = 5 := by omega
          · obtain ⟨E, hE⟩ : ∃ E, okE P'.ok n x = E := ⟨_, rfl⟩
            have HE := Lib.hid hE
            clear hE
            go_wp2
            clear hc0 hc1
            have hz0 := HZ0.out
            go_region_held3 (fun W => W.cell? ⟨wr.heap.size, 1, none⟩ = some (.int .i64 x)) (first | exact hz0 | exact hz1 | exact hz2)
              (first
              | (go_at_call 13; refine (mid_add x E HE.out HM0 (by rfl) (by rfl) (by rfl) (by rfl)).mono ?_; rintro e w6 ⟨rfl, HM1, hz1⟩)
              | (go_at_call 14; refine (mid_radd x E HE.out HM1 (by rfl) (by rfl) (by rfl) (by rfl)).mono ?_; rintro e w7 ⟨rfl, HM2, hz2⟩))
            clear hz0 hz1 hz2
            have hzA : w7.cell? ⟨wr.heap.size, 1, none⟩ = some (.int .i64 x) := HM2.out.2.cell 1
            go_wp2_with fail
            refine (p_shows _ P' n _ x HX.out HM2.out.1.p HM2.out.1.tab).mono ?_
            rintro e s1 ⟨rfl, hb⟩
            have HS1 := Lib.hid (HM2.out.quiet hb)
            clear hb hzA
            have hzA : s1.cell? ⟨wr.heap.size, 1, none⟩ = some (.int .i64 x) := HS1.out.2.cell 1
            go_wp2_with fail
            refine (p_shows _ T m Ft x HX.out HS1.out.1.t HS1.out.1.tab).mono ?_
            rintro e s2 ⟨rfl, hb⟩
            have HS2 := Lib.hid (HS1.out.quiet hb)
            clear hb hzA
            have hzA : s2.cell? ⟨wr.heap.size, 1, none⟩ = some (.int .i64 x) := HS2.out.2.cell 1
            go_wp2_with fail
            refine (p_shows _ O' n _ x HX.out HS2.out.1.o HS2.out.1.tab).mono ?_
            rintro e s3 ⟨rfl, hb⟩
            have HS3 := Lib.hid (HS2.out.quiet hb)
            clear hb hzA
            go_wp2
            go_roundw
            case rel => exact ⟨k + 1, P', O', _, _, by omega, by go_num, rfl, rfl, rfl, rfl, HS3.out.1⟩
            case measure => simp [intOf]; omega
          · obtain ⟨E, hE⟩ : ∃ E, okE P'.ok n x = E := ⟨_, rfl⟩
            have HE := Lib.hid hE
            clear hE
            go_wp2
            clear hc0 hc1
            have hz0 := HZ0.out
            go_region_held3 (fun W => W.cell? ⟨wr.heap.size, 1, none⟩ = some (.int .i64 x)) (first | exact hz0 | exact hz1 | exact hz2)
              (first
              | (go_at_call 15; refine (mid_remove x E HE.out HM0 (by rfl) (by rfl) (by rfl) (by rfl)).mono ?_; rintro e w6 ⟨rfl, HM1, hz1⟩)
              | (go_at_call 16; refine (mid_rremove x E HE.out HM1 (by rfl) (by rfl) (by rfl) (by rfl)).mono ?_; rintro e w7 ⟨rfl, HM2, hz2⟩))
            clear hz0 hz1 hz2
            have hzA : w7.cell? ⟨wr.heap.size, 1, none⟩ = some (.int .i64 x) := HM2.out.2.cell 1
            go_wp2_with fail
            refine (p_shows _ P' n _ x HX.out HM2.out.1.p HM2.out.1.tab).mono ?_
            rintro e s1 ⟨rfl, hb⟩
            have HS1 := Lib.hid (HM2.out.quiet hb)
            clear hb hzA
            have hzA : s1.cell? ⟨wr.heap.size, 1, none⟩ = some (.int .i64 x) := HS1.out.2.cell 1
            go_wp2_with fail
            refine (p_shows _ T m Ft x HX.out HS1.out.1.t HS1.out.1.tab).mono ?_
            rintro e s2 ⟨rfl, hb⟩
            have HS2 := Lib.hid (HS1.out.quiet hb)
            clear hb hzA
            have hzA : s2.cell? ⟨wr.heap.size, 1, none⟩ = some (.int .i64 x) := HS2.out.2.cell 1
            go_wp2_with fail
            refine (p_shows _ O' n _ x HX.out HS2.out.1.o HS2.out.1.tab).mono ?_
            rintro e s3 ⟨rfl, hb⟩
            have HS3 := Lib.hid (HS2.out.quiet hb)
            clear hb hzA
            go_wp2
            go_roundw
            case rel => exact ⟨k + 1, P', O', _, _, by omega, by go_num, rfl, rfl, rfl, rfl, HS3.out.1⟩
            case measure => simp [intOf]; omega
          · go_wp2_with fail
            clear hc0 hc1
            refine (p_clear _ P' n F' F' HM0.out.1.p).mono ?_
            rintro e w6 ⟨rfl, h2, h3⟩
            have HM1 : Hid (Mid w w6 P' T O' n m n (fun _ => false) F' Ft Fo' wr.heap.size #[.int .u8 D, .int .i64 x]) := HM0.out.step (tch_g h3) h2
            clear h2 h3
            go_wp2_with fail
            refine (p_rclear _ P' n (fun _ => false) F' HM1.out.1.p).mono ?_
            rintro e w7 ⟨rfl, ⟨d', hd, h2⟩, h3⟩
            have HM2 : Hid (Mid w w7 (P'.setd d') T O' n m n (fun _ => false) (fun _ => false) Ft Fo' wr.heap.size #[.int .u8 D, .int .i64 x]) := ⟨HM1.out.1.stepd (tch_c h3) hd h2, HM1.out.2.farP HM1.out.1.p (tch_c h3)⟩
            clear hd h2 h3
            have hzA : w7.cell? ⟨wr.heap.size, 1, none⟩ = some (.int .i64 x) := HM2.out.2.cell 1
            go_wp2_with fail
            refine (p_shows _ (P'.setd d') n _ x HX.out HM2.out.1.p HM2.out.1.tab).mono ?_
            rintro e s1 ⟨rfl, hb⟩
            have HS1 := Lib.hid (HM2.out.quiet hb)
            clear hb hzA
            have hzA : s1.cell? ⟨wr.heap.size, 1, none⟩ = some (.int .i64 x) := HS1.out.2.cell 1
            go_wp2_with fail
            refine (p_shows _ T m Ft x HX.out HS1.out.1.t HS1.out.1.tab).mono ?_
            rintro e s2 ⟨rfl, hb⟩
            have HS2 := Lib.hid (HS1.out.quiet hb)
            clear hb hzA
            have hzA : s2.cell? ⟨wr.heap.size, 1, none⟩ = some (.int .i64 x) := HS2.out.2.cell 1
            go_wp2_with fail
            refine (p_shows _ O' n _ x HX.out HS2.out.1.o HS2.out.1.tab).mono ?_
            rintro e s3 ⟨rfl, hb⟩
            have HS3 := Lib.hid (HS2.out.quiet hb)
            clear hb hzA
            go_wp2
            go_roundw
            case rel => exact ⟨k + 1, (P'.setd d'), O', _, _, by omega, by go_num, rfl, rfl, rfl, rfl, HS3.out.1⟩
            case measure => simp [intOf]; omega
          · obtain ⟨E, hE⟩ : ∃ E, coE P' T n m = E := ⟨_, rfl⟩
            have HE := Lib.hid hE
            clear hE
            go_wp2_with fail
            clear hc0 hc1
            refine (mid_union E HE.out HM0).mono ?_
            rintro e w6 ⟨rfl, HM1⟩
            go_wp2_with fail
            refine (mid_runion E HE.out HM1).mono ?_
            rintro e w7 ⟨z, rfl, rfl, HM2⟩
            have hzA : w7.cell? ⟨wr.heap.size, 1, none⟩ = some (.int .i64 x) := HM2.out.2.cell 1
            go_wp2_with fail
            refine (p_shows _ P' n _ x HX.out HM2.out.1.p HM2.out.1.tab).mono ?_
            rintro e s1 ⟨rfl, hb⟩
            have HS1 := Lib.hid (HM2.out.quiet hb)
            clear hb hzA
            have hzA : s1.cell? ⟨wr.heap.size, 1, none⟩ = some (.int .i64 x) := HS1.out.2.cell 1
            go_wp2_with fail
            refine (p_shows _ T m Ft x HX.out HS1.out.1.t HS1.out.1.tab).mono ?_
            rintro e s2 ⟨rfl, hb⟩
            have HS2 := Lib.hid (HS1.out.quiet hb)
            clear hb hzA
            have hzA : s2.cell? ⟨wr.heap.size, 1, none⟩ = some (.int .i64 x) := HS2.out.2.cell 1
            go_wp2_with fail
            refine (p_shows _ O' n _ x HX.out HS2.out.1.o HS2.out.1.tab).mono ?_
            rintro e s3 ⟨rfl, hb⟩
            have HS3 := Lib.hid (HS2.out.quiet hb)
            clear hb hzA
            go_wp2
            go_roundw
            case rel => exact ⟨k + 1, P', O', _, _, by omega, by go_num, rfl, rfl, rfl, rfl, HS3.out.1⟩
            case measure => simp [intOf]; omega
          · obtain ⟨E, hE⟩ : ∃ E, coE P' T n m = E := ⟨_, rfl⟩
            have HE := Lib.hid hE
            clear hE
            go_wp2_with fail
            clear hc0 hc1
            refine (mid_minus E HE.out HM0).mono ?_
            rintro e w6 ⟨rfl, HM1⟩
            go_wp2_with fail
            refine (mid_rminus E HE.out HM1).mono ?_
            rintro e w7 ⟨z, rfl, rfl, HM2⟩
            have hzA : w7.cell? ⟨wr.heap.size, 1, none⟩ = some (.int .i64 x) := HM2.out.2.cell 1
            go_wp2_with fail
            refine (p_shows _ P' n _ x HX.out HM2.out.1.p HM2.out.1.tab).mono ?_
            rintro e s1 ⟨rfl, hb⟩
            have HS1 := Lib.hid (HM2.out.quiet hb)
            clear hb hzA
            have hzA : s1.cell? ⟨wr.heap.size, 1, none⟩ = some (.int .i64 x) := HS1.out.2.cell 1
            go_wp2_with fail
            refine (p_shows _ T m Ft x HX.out HS1.out.1.t HS1.out.1.tab).mono ?_
            rintro e s2 ⟨rfl, hb⟩
            have HS2 := Lib.hid (HS1.out.quiet hb)
            clear hb hzA
            have hzA : s2.cell? ⟨wr.heap.size, 1, none⟩ = some (.int .i64 x) := HS2.out.2.cell 1
            go_wp2_with fail
            refine (p_shows _ O' n _ x HX.out HS2.out.1.o HS2.out.1.tab).mono ?_
            rintro e s3 ⟨rfl, hb⟩
            have HS3 := Lib.hid (HS2.out.quiet hb)
            clear hb hzA
            go_wp2
            go_roundw
            case rel => exact ⟨k + 1, P', O', _, _, by omega, by go_num, rfl, rfl, rfl, rfl, HS3.out.1⟩
            case measure => simp [intOf]; omega
          · go_wp2_with fail
            clear hc0 hc1
            refine (p_copy _ P' n F' F' HM0.out.1.p).mono ?_
            rintro e w6 ⟨v, b, g, rfl, n1, y1, hb1⟩
            have HM1 := Lib.hid (HM0.out.quiet hb1)
            have N1 := Lib.hid n1
            have Y1 := Lib.hid y1
            have B1 := Lib.hid hb1
            clear n1 y1 hb1
            go_wp2_with fail
            refine (p_rcopy _ P' n F' F' HM1.out.1.p).mono ?_
            rintro e w7 ⟨u, c, d, rfl, n2, y2, hb2⟩
            have HM2 : Hid (Mid w w7 ⟨P'.ok, v, u, b, g, c, d⟩ T P' n m n F' F' Ft F' wr.heap.size #[.int .u8 D, .int .i64 x]) := ⟨HM0.out.1.copied N1.out Y1.out B1.out n2 y2 hb2, (HM1.out.2.below hb2)⟩
            clear n2 y2 hb2 N1 Y1 B1
            have hzA : w7.cell? ⟨wr.heap.size, 1, none⟩ = some (.int .i64 x) := HM2.out.2.cell 1
            go_wp2_with fail
            refine (p_shows _ ⟨P'.ok, v, u, b, g, c, d⟩ n _ x HX.out HM2.out.1.p HM2.out.1.tab).mono ?_
            rintro e s1 ⟨rfl, hb⟩
            have HS1 := Lib.hid (HM2.out.quiet hb)
            clear hb hzA
            have hzA : s1.cell? ⟨wr.heap.size, 1, none⟩ = some (.int .i64 x) := HS1.out.2.cell 1
            go_wp2_with fail
            refine (p_shows _ T m Ft x HX.out HS1.out.1.t HS1.out.1.tab).mono ?_
            rintro e s2 ⟨rfl, hb⟩
            have HS2 := Lib.hid (HS1.out.quiet hb)
            clear hb hzA
            have hzA : s2.cell? ⟨wr.heap.size, 1, none⟩ = some (.int .i64 x) := HS2.out.2.cell 1
            go_wp2_with fail
            refine (p_shows _ P' n _ x HX.out HS2.out.1.o HS2.out.1.tab).mono ?_
            rintro e s3 ⟨rfl, hb⟩
            have HS3 := Lib.hid (HS2.out.quiet hb)
            clear hb hzA
            go_wp2
            go_roundw
            case rel => exact ⟨k + 1, ⟨P'.ok, v, u, b, g, c, d⟩, P', _, _, by omega, by go_num, rfl, rfl, rfl, rfl, HS3.out.1⟩
            case measure => simp [intOf]; omega
        · obtain rfl : k = len := by omega
          go_wp2_with fail
          refine (works_ok _ HS.out.tab).mono ?_
          rintro e w9 ⟨rfl, hb9⟩
          go_wp2
          go_ret
          exact ⟨rfl, bel2 HS.out.bel hb9⟩

set_option maxRecDepth 100000 in
theorem plays_long1 (sz ot : Int) (a : Option Addr) (len cap : Nat) (a2 : Option Addr) (len2 cap2 : Nat) (w : World) (hl : 60 < len) (hT : Tab w) :
    Calls Tryd.prog 3 #[.int .i64 sz, .int .i64 ot, .slice a len cap, .slice a2 len2 cap2] w fun e w' => e = .returned (.bool true) ∧ Below w.heap.size w w' := by
  have HT := Lib.hid hT
  clear hT
  go_enter Tryd.func3, Tryd.ntmps3
  go_wp2_with fail
  refine (works_ok _ HT.out).mono ?_
  rintro e w9 ⟨rfl, hb9⟩
  go_wp2
  go_ret
  exact ⟨rfl, hb9⟩
set_option maxRecDepth 100000 in
theorem plays_long2 (sz ot : Int) (a : Option Addr) (len cap : Nat) (a2 : Option Addr) (len2 cap2 : Nat) (w : World) (hl : len ≤ 60) (hl2 : 60 < len2) (hT : Tab w) :
    Calls Tryd.prog 3 #[.int .i64 sz, .int .i64 ot, .slice a len cap, .slice a2 len2 cap2] w fun e w' => e = .returned (.bool true) ∧ Below w.heap.size w w' := by
  have HT := Lib.hid hT
  clear hT
  go_enter Tryd.func3, Tryd.ntmps3
  go_wp2_with fail
  refine (works_ok _ HT.out).mono ?_
  rintro e w9 ⟨rfl, hb9⟩
  go_wp2
  go_ret
  exact ⟨rfl, hb9⟩

theorem plays_walk (sz ot : Int) (a : Option Addr) (len cap : Nat) (dos : Nat → Nat) (is : Nat → Int) (a2 : Option Addr) (len2 cap2 : Nat) (dos2 : Nat → Nat) (is2 : Nat → Int) (w : World) (hu : StepsA w a len dos is) (hu2 : StepsA w a2 len2 dos2 is2) (hT : Tab w) :
    Calls Tryd.prog 3 #[.int .i64 sz, .int .i64 ot, .slice a len cap, .slice a2 len2 cap2] w fun e w' => e = .returned (.bool true) ∧ Below w.heap.size w w' := by
  by_cases h : len ≤ 60
  · by_cases h2 : len2 ≤ 60
    · exact plays_core sz ot a len cap dos is a2 len2 cap2 dos2 is2 w h h2 hu hu2 hT
    · exact plays_long2 sz ot a len cap a2 len2 cap2 w h (by omega) hT
  · exact plays_long1 sz ot a len cap a2 len2 cap2 w (by omega) hT
end Go.Proofs.YtaenemdclmnnaaaDoor
