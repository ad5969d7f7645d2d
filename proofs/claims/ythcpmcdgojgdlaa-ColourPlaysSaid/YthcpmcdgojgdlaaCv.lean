/- Each call of a paint, told of the state: what it answers, what becomes of the paint. -/
import Derived.Test.YthcpmcdgojgdlaaCl
namespace Go.Proofs.Ythcpmcdgojgdlaa
open Go.RowKit

theorem of_any (b : Nat) (P : Pt) (i : Int) (w : World) (h : PaW w b P) : Calls Try.prog 25 #[.pointer (some ⟨b, 0, none⟩), .int .i64 i] w fun e w' => e = .returned (.tuple #[.int .i64 (P.of_ i), .int .i64 (P.chk i)]) ∧ w = w' := by
  unfold Pt.of_ Pt.chk
  by_cases hi : P.at_ i
  · obtain ⟨k, rfl⟩ : ∃ k : Nat, i = k := ⟨i.toNat, by unfold Pt.at_ at hi; omega⟩
    rw [if_pos hi, if_pos hi, Int.toNat_natCast]
    exact of_in b P k w h ((P.at_nat k).1 hi)
  · rw [if_neg hi, if_neg hi]
    exact of_out b P i w h (by unfold Pt.at_ at hi; omega)
/-- The paint, in memory that was made since w0. -/
structure CSt (w0 w : World) (b : Nat) (P : Pt) : Prop where
  p : PaW w b P
  bel : Below w0.heap.size w0 w
  lb : w0.heap.size ≤ b
section
variable {w0 w w' : World} {b : Nat} {P Q : Pt}
theorem CSt.quiet (h : CSt w0 w b P) (q : Below w.heap.size w w') : CSt w0 w' b P := ⟨h.p.below q, bel2 h.bel q, h.lb⟩
theorem CSt.step (h : CSt w0 w b P) (hp : PaW w' b Q) (k : Kept (· = b) w w') : CSt w0 w' b Q := ⟨hp, h.bel.trans (k.below h.bel.size fun i e => by rw [e]; exact h.lb), h.lb⟩
theorem CSt.other (h : CSt w0 w b P) {A : Nat} (k : Kept (· = A) w w') (hA : w0.heap.size ≤ A) (hne : b ≠ A) : CSt w0 w' b P := ⟨h.p.kept k hne, h.bel.trans (k.below h.bel.size fun i e => by rw [e]; exact hA), h.lb⟩
theorem shade_s (i : Int) (B : Bool) (E : Int) (h : CSt w0 w b P) (hB : P.shadeB i = B) (hE : P.chk i = E) : Calls Try.prog 12 #[.pointer (some ⟨b, 0, none⟩), .int .i64 i] w fun e w' => e = .returned (.tuple #[.bool B, .int .i64 E]) ∧ CSt w0 w' b (P.turn i 0 1) ∧ Kept (· = b) w w' := by
  subst hB hE
  exact (shade_ok b P i w h.p).mono fun _ _ ⟨k1, k2, k3⟩ => ⟨k1, h.step k2 k3, k3⟩
theorem black_s (i E : Int) (h : CSt w0 w b P) (hE : P.turnE i 1 = E) : Calls Try.prog 14 #[.pointer (some ⟨b, 0, none⟩), .int .i64 i] w fun e w' => e = .returned (.int .i64 E) ∧ CSt w0 w' b (P.turn i 1 2) ∧ Kept (· = b) w w' := by
  subst hE
  exact (black_ok b P i w h.p).mono fun _ _ ⟨k1, k2, k3⟩ => ⟨k1, h.step k2 k3, k3⟩
theorem born_s (i E : Int) (h : CSt w0 w b P) (hE : P.turnE i 0 = E) : Calls Try.prog 16 #[.pointer (some ⟨b, 0, none⟩), .int .i64 i] w fun e w' => e = .returned (.int .i64 E) ∧ CSt w0 w' b (P.turn i 0 2) ∧ Kept (· = b) w w' := by
  subst hE
  exact (born_ok b P i w h.p).mono fun _ _ ⟨k1, k2, k3⟩ => ⟨k1, h.step k2 k3, k3⟩
theorem bleach_s (i E : Int) (h : CSt w0 w b P) (hE : P.chk i = E) : Calls Try.prog 18 #[.pointer (some ⟨b, 0, none⟩), .int .i64 i] w fun e w' => e = .returned (.int .i64 E) ∧ CSt w0 w' b (P.bleach i) ∧ Kept (· = b) w w' := by
  subst hE
  exact (bleach_ok b P i w h.p).mono fun _ _ ⟨k1, k2, k3⟩ => ⟨k1, h.step k2 k3, k3⟩
theorem of_s (i : Int) (c : Nat) (E : Int) (h : CSt w0 w b P) (hc : P.of_ i = c) (hE : P.chk i = E) : Calls Try.prog 25 #[.pointer (some ⟨b, 0, none⟩), .int .i64 i] w fun e w' => e = .returned (.tuple #[.int .i64 c, .int .i64 E]) ∧ w = w' := by
  subst hc hE
  exact of_any b P i w h.p
theorem counts_s (x y z : Nat) (h : CSt w0 w b P) (hx : P.cnt 0 = x) (hy : P.cnt 1 = y) (hz : P.cnt 2 = z) : Calls Try.prog 27 #[.pointer (some ⟨b, 0, none⟩)] w fun e w' => e = .returned (.tuple #[.int .i64 x, .int .i64 y, .int .i64 z]) ∧ CSt w0 w' b P ∧ Below w.heap.size w w' := by
  subst hx hy hz
  exact (counts_ok b P w h.p).mono fun _ _ ⟨k1, k2⟩ => ⟨k1, h.quiet k2, k2⟩
theorem grey_s (fr : Int) (k : Nat) (B : Bool) (h : CSt w0 w b P) (hfr : fr ≤ 9223372036854775807) (hk : (P.greys fr).headD 0 = k) (hB : (!(P.greys fr).isEmpty) = B) : Calls Try.prog 26 #[.pointer (some ⟨b, 0, none⟩), .int .i64 fr] w fun e w' => e = .returned (.tuple #[.int .i64 k, .bool B]) ∧ CSt w0 w' b P ∧ Below w.heap.size w w' := by
  subst hk hB
  exact (grey_ok b P fr hfr w h.p).mono fun _ _ ⟨k1, k2⟩ => ⟨k1, h.quiet k2, k2⟩
theorem clear_s (h : CSt w0 w b P) : Calls Try.prog 20 #[.pointer (some ⟨b, 0, none⟩)] w fun e w' => e = .returned (.tuple #[]) ∧ CSt w0 w' b (white P.n) ∧ Kept (· = b) w w' :=
  (clear_ok b P w h.p).mono fun _ _ ⟨k1, k2, k3⟩ => ⟨k1, h.step k2 k3, k3⟩
end
end Go.Proofs.Ythcpmcdgojgdlaa
