/- The state of three pairs of sets; both News; the parameter that lists steps. -/
import Derived.Test.YtaenemdclmnnaaaDoorBo
namespace Go.Proofs.YtaenemdclmnnaaaDoor
open Go.RowKit

/-- The blocks that a call on the pair P may turn. -/
def Tch (P : Pr) : Nat → Prop := fun k => P.ok = true ∧ (k = P.g ∨ k = P.d ∨ k = P.c)
theorem tch_g {P : Pr} {w w' : World} (h : Kept (At P.ok P.g) w w') : Kept (Tch P) w w' := h.mono fun _ _ e => ⟨e.1, .inl e.2⟩
theorem tch_d {P : Pr} {w w' : World} (h : Kept (At P.ok P.d) w w') : Kept (Tch P) w w' := h.mono fun _ _ e => ⟨e.1, .inr (.inl e.2)⟩
theorem tch_c {P : Pr} {w w' : World} (h : Kept (At P.ok P.c) w w') : Kept (Tch P) w w' := h.mono fun _ _ e => ⟨e.1, .inr (.inr e.2)⟩
theorem PR.far {w w' : World} {P Q : Pr} {n m : Nat} {F H G J : Nat → Bool} (a : PR w P n F H) (q : PR w Q m G J) (d : Dis P Q) (k : Kept (Tch P) w w') : PR w' Q m G J := by
  refine ⟨q.no, fun e => ?_⟩
  obtain ⟨h1, h2, h3, h4⟩ := q.yes e
  have hx : ∀ x, (P.ok = true → x ≠ P.g ∧ x ≠ P.d ∧ x ≠ P.c) → ¬ Tch P x := fun x h ht => by
    obtain ⟨e1, e2⟩ := ht
    have := h e1
    rcases e2 with e2 | e2 | e2
    · exact this.1 e2
    · exact this.2.1 e2
    · exact this.2.2 e2
  refine ⟨h1, h2, h3.kept k (hx _ fun e1 => ?_) (hx _ fun e1 => ?_), h4.kept k (hx _ fun e1 => ?_) (hx _ fun e1 => ?_)⟩
  all_goals
    obtain ⟨_, _, p3, p4⟩ := a.yes e1
    have d1 := d e1 e
  · exact ⟨(types_ss h3 p3).1, (types_sr h3 p4).2.1, (types_sr h3 p4).1⟩
  · exact ⟨fun x => d1.1 x.symm, (types_sr h3 p4).2.2.2, (types_sr h3 p4).2.2.1⟩
  · exact ⟨fun x => (types_sr p3 h4).2.2.1 x.symm, (types_rr h4 p4).1, fun x => d1.2.2 x.symm⟩
  · exact ⟨fun x => (types_sr p3 h4).2.2.2 x.symm, fun x => d1.2.1 x.symm, (types_rr h4 p4).2⟩
/-- A block of another kind is none of them. -/
theorem Bk.farP {w w' : World} {P : Pr} {n : Nat} {F H : Nat → Bool} {X : Nat} {cs : Array Value} (x : Bk w X 32 cs) (a : PR w P n F H) (k : Kept (Tch P) w w') : Bk w' X 32 cs := by
  refine x.kept k ?_
  rintro ⟨e1, e2⟩
  obtain ⟨_, _, p3, p4⟩ := a.yes e1
  obtain ⟨_, _, s1, s2, _⟩ := p3.at_
  obtain ⟨_, _, s3, s4, _⟩ := p4.at_
  rcases e2 with e2 | e2 | e2 <;> subst e2
  · exact absurd (x.uniq s2).1 (by decide)
  · exact absurd (x.uniq s4).1 (by decide)
  · exact absurd (x.uniq s3).1 (by decide)

structure PSt (w0 w : World) (P T O : Pr) (n m k : Nat) (F H Ft Fo : Nat → Bool) : Prop where
  p : PR w P n F H
  t : PR w T m Ft Ft
  o : PR w O k Fo Fo
  d1 : Dis P T
  d2 : Dis P O
  ge : P.ok = true → w0.heap.size ≤ P.g ∧ w0.heap.size ≤ P.d ∧ w0.heap.size ≤ P.c
  tab : Tab w
  bel : Below w0.heap.size w0 w
  x0 : (0 : Nat) < w0.heap.size
section
variable {w0 w w' : World} {P T O : Pr} {n m k : Nat} {F H F' H' Ft Fo : Nat → Bool}
theorem PSt.quiet (a : PSt w0 w P T O n m k F H Ft Fo) (b : Below w.heap.size w w') : PSt w0 w' P T O n m k F H Ft Fo :=
  ⟨a.p.below b, a.t.below b, a.o.below b, a.d1, a.d2, a.ge, a.tab.below b, a.bel.trans (b.mono a.bel.size), a.x0⟩
theorem PSt.rest (a : PSt w0 w P T O n m k F H Ft Fo) (b : Kept (Tch P) w w') : PR w' T m Ft Ft ∧ PR w' O k Fo Fo ∧ Tab w' ∧ Below w0.heap.size w0 w' := by
  refine ⟨a.p.far a.t a.d1 b, a.p.far a.o a.d2 b, a.tab.same (b.block _ a.tab.lt ?_), a.bel.trans (b.below a.bel.size ?_)⟩
  · rintro ⟨e1, e2⟩
    have := a.ge e1
    have := a.x0
    omega
  · rintro k ⟨e1, e2⟩
    have := a.ge e1
    omega
theorem PSt.step (a : PSt w0 w P T O n m k F H Ft Fo) (b : Kept (Tch P) w w') (hp : PR w' P n F' H') : PSt w0 w' P T O n m k F' H' Ft Fo := by
  obtain ⟨h1, h2, h3, h4⟩ := a.rest b
  exact ⟨hp, h1, h2, a.d1, a.d2, a.ge, h3, h4, a.x0⟩
theorem PSt.stepd {d' : Nat} (a : PSt w0 w P T O n m k F H Ft Fo) (b : Kept (Tch P) w w') (hd : w.heap.size ≤ d') (hp : PR w' (P.setd d') n F' H') : PSt w0 w' (P.setd d') T O n m k F' H' Ft Fo := by
  obtain ⟨h1, h2, h3, h4⟩ := a.rest b
  have hb := a.bel.size
  refine ⟨hp, h1, h2, fun e1 e2 => ?_, fun e1 e2 => ?_, fun e1 => ?_, h3, h4, a.x0⟩
  · obtain ⟨q1, q2, q3⟩ := a.d1 e1 e2
    obtain ⟨_, _, _, r⟩ := a.t.yes e2
    have := r.gt
    exact ⟨q1, by show d' ≠ T.d; omega, q3⟩
  · obtain ⟨q1, q2, q3⟩ := a.d2 e1 e2
    obtain ⟨_, _, _, r⟩ := a.o.yes e2
    have := r.gt
    exact ⟨q1, by show d' ≠ O.d; omega, q3⟩
  · obtain ⟨q1, q2, q3⟩ := a.ge e1
    exact ⟨q1, by show w0.heap.size ≤ d'; omega, q3⟩
end

/-! ### New -/
def okN (n : Int) : Bool := decide (1 ≤ n ∧ n ≤ 4096)
def newE (n : Int) : Int := if okN n then 0 else 2
theorem p_new (n : Int) (w : World) : Calls Tryd.prog 11 #[.int .i64 n] w fun e w' => ∃ v b g, e = .returned (.tuple #[.pointer v, .int .i64 (newE n)]) ∧ (okN n = false → v = none) ∧ (okN n = true → v = some ⟨b, 0, none⟩ ∧ SetW w' b g n.toNat (fun _ => false) ∧ w.heap.size ≤ b ∧ w.heap.size ≤ g) ∧ Below w.heap.size w w' := by
  by_cases h : 1 ≤ n ∧ n ≤ 4096
  · obtain ⟨k, rfl⟩ : ∃ k : Nat, n = k := ⟨n.toNat, by omega⟩
    have e : okN k = true := decide_eq_true h
    refine (new_ok k w (by omega) (by omega)).mono ?_
    rintro e' w' ⟨b, g, h1, h2, rfl, h3, h4⟩
    exact ⟨_, b, g, by rw [newE, e]; rfl, fun e2 => (by rw [e] at e2; cases e2), fun _ => ⟨rfl, h3, h1, h2⟩, h4⟩
  · have e : okN n = false := decide_eq_false h
    refine (new_no n w (by omega)).mono ?_
    rintro e' w' ⟨rfl, rfl⟩
    exact ⟨none, 0, 0, by rw [newE, e]; rfl, fun _ => rfl, fun e2 => (by rw [e] at e2; cases e2), Below.refl _ _⟩
theorem p_rnew (n : Int) (w : World) : Calls Tryd.prog 12 #[.int .i64 n] w fun e w' => ∃ v b g, e = .returned (.tuple #[.pointer v, .int .i64 (newE n)]) ∧ (okN n = false → v = none) ∧ (okN n = true → v = some ⟨b, 0, none⟩ ∧ RefW w' b g n.toNat (fun _ => false) ∧ w.heap.size ≤ b ∧ w.heap.size ≤ g) ∧ Below w.heap.size w w' := by
  by_cases h : 1 ≤ n ∧ n ≤ 4096
  · obtain ⟨k, rfl⟩ : ∃ k : Nat, n = k := ⟨n.toNat, by omega⟩
    have e : okN k = true := decide_eq_true h
    refine (rnew_ok k w (by omega) (by omega)).mono ?_
    rintro e' w' ⟨b, g, h1, h2, rfl, h3, h4⟩
    exact ⟨_, b, g, by rw [newE, e]; rfl, fun e2 => (by rw [e] at e2; cases e2), fun _ => ⟨rfl, h3, h1, h2⟩, h4⟩
  · have e : okN n = false := decide_eq_false h
    refine (rnew_no n w (by omega)).mono ?_
    rintro e' w' ⟨rfl, rfl⟩
    exact ⟨none, 0, 0, by rw [newE, e]; rfl, fun _ => rfl, fun e2 => (by rw [e] at e2; cases e2), Below.refl _ _⟩

/-- What a parameter of steps holds. -/
structure StepsA (w : World) (a : Option Addr) (len : Nat) (dos : Nat → Nat) (is : Nat → Int) : Prop where
  at_ : 0 < len → ∃ b off, a = some ⟨b, off, none⟩ ∧ b < w.heap.size ∧ ∀ j, j < len → w.cell? ⟨b, off + j * 2, none⟩ = some (.int .u8 (dos j : Int)) ∧ w.cell? ⟨b, off + j * 2 + 1, none⟩ = some (.int .i64 (is j))
  lt : ∀ j, j < len → dos j < 256
  bd : ∀ j, j < len → -9223372036854775808 ≤ is j ∧ is j ≤ 9223372036854775807
theorem StepsA.below {w w' : World} {a : Option Addr} {len : Nat} {dos : Nat → Nat} {is : Nat → Int} (h : StepsA w a len dos is) (hb : Below w.heap.size w w') : StepsA w' a len dos is :=
  ⟨fun h0 => by obtain ⟨b, off, e, h1, h2⟩ := h.at_ h0; exact ⟨b, off, e, Nat.lt_of_lt_of_le h1 hb.size, fun j hj => ⟨(hb.cell (p := ⟨b, off + j * 2, none⟩) h1).trans (h2 j hj).1, (hb.cell (p := ⟨b, off + j * 2 + 1, none⟩) h1).trans (h2 j hj).2⟩⟩, h.lt, h.bd⟩
end Go.Proofs.YtaenemdclmnnaaaDoor
