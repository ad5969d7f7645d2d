/- Three pools side by side; calls on the second and the third. -/
import Derived.Test.YtjhgckaaaonbiaaUs
namespace Go.Proofs.Ytjhgckaaaonbiaa
open Go.RowKit

/-- Where a pool lies. -/
structure At where
  b : Nat
  s : Nat
  k : Nat
def At.ft (a : At) : Nat → Prop := PFoot a.b a.s a.k
def At.p (a : At) : Value := .pointer (some ⟨a.b, 0, none⟩)
structure Tri (w0 w : World) (a c d : At) (P Q R : Po) : Prop where
  p : PSt w0 w a.b a.s a.k P
  q : PSt w0 w c.b c.s c.k Q
  r : PSt w0 w d.b d.s d.k R
  ac : ∀ g, a.ft g → ¬ c.ft g
  ad : ∀ g, a.ft g → ¬ d.ft g
  cd : ∀ g, c.ft g → ¬ d.ft g
section
variable {w0 w w' : World} {a c d : At} {P Q R Q' : Po}
theorem PSt.off {x y : At} (h : PSt w0 w x.b x.s x.k P) (q : Kept y.ft w w') (hd : ∀ g, x.ft g → ¬ y.ft g) (hb : Below w0.heap.size w0 w') : PSt w0 w' x.b x.s x.k P := ⟨h.f.kept q hd, hb, h.lo⟩
theorem Tri.quiet (h : Tri w0 w a c d P Q R) (q : Below w.heap.size w w') : Tri w0 w' a c d P Q R := ⟨h.p.quiet q, h.q.quiet q, h.r.quiet q, h.ac, h.ad, h.cd⟩
theorem Tri.onq (h : Tri w0 w a c d P Q R) (q : Kept c.ft w w') (hs : PSt w0 w' c.b c.s c.k Q') : Tri w0 w' a c d P Q' R :=
  ⟨h.p.off q h.ac hs.bel, hs, h.r.off q (fun g h1 h2 => h.cd g h2 h1) hs.bel, h.ac, h.ad, h.cd⟩
theorem Tri.onr (h : Tri w0 w a c d P Q R) (q : Kept d.ft w w') (hs : PSt w0 w' d.b d.s d.k Q') : Tri w0 w' a c d P Q Q' :=
  ⟨h.p.off q h.ad hs.bel, h.q.off q h.cd hs.bel, hs, h.ac, h.ad, h.cd⟩
theorem Tri.boxq {A : Nat} {cs : Array Value} (h : Tri w0 w a c d P Q R) (hA : Bk w A 34 cs) (q : Kept c.ft w w') : Bk w' A 34 cs := h.q.box hA q
theorem Tri.boxr {A : Nat} {cs : Array Value} (h : Tri w0 w a c d P Q R) (hA : Bk w A 34 cs) (q : Kept d.ft w w') : Bk w' A 34 cs := h.r.box hA q
/-- Pin on the second, on the third. -/
theorem tpin_q (x K I G E : Int) (h : Tri w0 w a c d P Q R) (e1 : (Q.pK x : Int) = K) (e2 : (Q.pI x : Int) = I) (e3 : (Q.pG x : Int) = G) (e4 : Q.can x = E) : Calls Try.prog 13 #[.pointer (some ⟨c.b, 0, none⟩), .int .i64 x] w fun e w' =>
    e = .returned (.tuple #[.agg #[.int .i64 K, .int .i64 I, .int .u32 G], .int .i64 E]) ∧ Hid (Tri w0 w' a c d P (Q.pin x) R) ∧ Hid (Kept c.ft w w') := by
  refine (pin_s x K I G E h.q e1 e2 e3 e4).mono ?_
  rintro e w' ⟨rfl, h1, h2⟩
  exact ⟨rfl, h.onq h2.out h1.out, h2⟩
theorem tpin_r (x K I G E : Int) (h : Tri w0 w a c d P Q R) (e1 : (R.pK x : Int) = K) (e2 : (R.pI x : Int) = I) (e3 : (R.pG x : Int) = G) (e4 : R.can x = E) : Calls Try.prog 13 #[.pointer (some ⟨d.b, 0, none⟩), .int .i64 x] w fun e w' =>
    e = .returned (.tuple #[.agg #[.int .i64 K, .int .i64 I, .int .u32 G], .int .i64 E]) ∧ Hid (Tri w0 w' a c d P Q (R.pin x)) ∧ Hid (Kept d.ft w w') := by
  refine (pin_s x K I G E h.r e1 e2 e3 e4).mono ?_
  rintro e w' ⟨rfl, h1, h2⟩
  exact ⟨rfl, h.onr h2.out h1.out, h2⟩
theorem tunpin_q (x y z E : Int) (h : Tri w0 w a c d P Q R) (e : Q.chk x y z = E) : Calls Try.prog 16 #[.pointer (some ⟨c.b, 0, none⟩), .agg #[.int .i64 x, .int .i64 y, .int .u32 z]] w fun e w' =>
    e = .returned (.int .i64 E) ∧ Hid (Tri w0 w' a c d P (Q.unpin x y z) R) ∧ Hid (Kept c.ft w w') := by
  refine (unpin_s x y z E h.q e).mono ?_
  rintro e w' ⟨rfl, h1, h2⟩
  exact ⟨rfl, h.onq h2.out h1.out, h2⟩
theorem tunpin_r (x y z E : Int) (h : Tri w0 w a c d P Q R) (e : R.chk x y z = E) : Calls Try.prog 16 #[.pointer (some ⟨d.b, 0, none⟩), .agg #[.int .i64 x, .int .i64 y, .int .u32 z]] w fun e w' =>
    e = .returned (.int .i64 E) ∧ Hid (Tri w0 w' a c d P Q (R.unpin x y z)) ∧ Hid (Kept d.ft w w') := by
  refine (unpin_s x y z E h.r e).mono ?_
  rintro e w' ⟨rfl, h1, h2⟩
  exact ⟨rfl, h.onr h2.out h1.out, h2⟩
theorem tall_q (h : Tri w0 w a c d P Q R) : Calls Try.prog 22 #[.pointer (some ⟨c.b, 0, none⟩)] w fun e w' =>
    ∃ p v, e = .returned (.slice p Q.all.length v) ∧ Hid (RdO w' (.slice p Q.all.length v) Q.all) ∧ Hid (Tri w0 w' a c d P Q R) ∧ Hid (Below w.heap.size w w') := by
  refine (all_s Q.all h.q rfl).mono ?_
  rintro e w' ⟨p, v, rfl, h1, h2, h3⟩
  exact ⟨p, v, rfl, h1.out.rd, h.quiet h3.out, h3⟩
/-- Two copies of a pool. -/
theorem tri_new {w2 w3 : World} {b2 b3 : Nat} (h : PSt w0 w a.b a.s a.k P) (h2 : PNew P w b2 w2) (h3 : PNew P w2 b3 w3) : ∃ c d : At, c.b = b2 ∧ d.b = b3 ∧ Tri w0 w3 a c d P P P := by
  obtain ⟨s2, k2, p2, f2, B2⟩ := h2
  obtain ⟨s3, k3, p3, f3, B3⟩ := h3
  have h1 : ∀ g, a.ft g → g < w.heap.size := fun g hg => h.f.foot_lt hg
  have h4 : ∀ g, PFoot b2 s2 k2 g → g < w2.heap.size := fun g hg => p2.foot_lt hg
  have hs := B2.size
  have hw := h.bel.size
  refine ⟨⟨b2, s2, k2⟩, ⟨b3, s3, k3⟩, rfl, rfl, (h.quiet B2).quiet B3, ⟨p2.below B3, bel2 (bel2 h.bel B2) B3, fun g hg => ?_⟩, ⟨p3, bel2 (bel2 h.bel B2) B3, fun g hg => ?_⟩, fun g g1 g2 => ?_, fun g g1 g2 => ?_, fun g g1 g2 => ?_⟩
  · have := f2 g hg; omega
  · have := f3 g hg; omega
  · have := h1 g g1; have := f2 g g2; omega
  · have := h1 g g1; have := f3 g g2; omega
  · have := h4 g g1; have := f3 g g2; omega
end
end Go.Proofs.Ytjhgckaaaonbiaa
