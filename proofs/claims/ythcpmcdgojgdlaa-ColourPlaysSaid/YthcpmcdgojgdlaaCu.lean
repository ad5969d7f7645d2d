/- Both paints beside an older pair; each call of both sides at once. -/
import Derived.Test.YthcpmcdgojgdlaaCt
namespace Go.Proofs.Ythcpmcdgojgdlaa
open Go.RowKit

/-- The older pair: none, or both in blocks that are none of the newer pair's. -/
def Old (w : World) (q s : Option Addr) (b c d : Nat) : Prop := (q = none ∧ s = none) ∨ ∃ b2 c2 d2 P, q = some ⟨b2, 0, none⟩ ∧ s = some ⟨c2, 0, none⟩ ∧ PaW w b2 P ∧ RfW w c2 d2 P ∧ b2 ≠ b ∧ c2 ≠ c ∧ d2 ≠ d
/-- Boxes of steps stay. -/
def XK (w w' : World) : Prop := ∀ A cs, Bk w A 32 cs → Bk w' A 32 cs
structure Im (w0 w : World) (p r : Option Addr) (b c d : Nat) (o1 o2 : Option Pt) (q s : Option Addr) : Prop where
  pa : PaO w p b o1
  rf : RfO w r c d o2
  old : Old w q s b c d
  bel : Below w0.heap.size w0 w
  lb : w0.heap.size ≤ b
  lc : w0.heap.size ≤ c
  ld : w0.heap.size ≤ d
section
variable {w0 w w' : World} {p r q s : Option Addr} {b c d : Nat} {o1 o2 : Option Pt} {P Q : Pt}
theorem xk_below (h : Below w.heap.size w w') : XK w w' := fun _ _ k => k.below h
theorem ne_bc (h : PaW w b P) (k : RfW w c d Q) : c ≠ b ∧ d ≠ b := by
  obtain ⟨_, _, _, h1⟩ := k.at_
  obtain ⟨_, h2, _⟩ := k.l
  exact ⟨by rintro rfl; exact absurd (h1.uniq h.bk).1 (by decide), by rintro rfl; exact absurd (h2.uniq h.bk).1 (by decide)⟩
theorem ne_cd {c2 d2 : Nat} (h : RfW w c d P) (k : RfW w c2 d2 Q) : c2 ≠ d ∧ d2 ≠ c := by
  obtain ⟨_, _, _, h1⟩ := k.at_
  obtain ⟨_, h2, _⟩ := k.l
  obtain ⟨_, _, _, h3⟩ := h.at_
  obtain ⟨_, h4, _⟩ := h.l
  exact ⟨by rintro rfl; exact absurd (h1.uniq h4).1 (by decide), by rintro rfl; exact absurd (h2.uniq h3).1 (by decide)⟩
theorem Old.below (h : Old w q s b c d) (k : Below w.heap.size w w') : Old w' q s b c d := by
  rcases h with h | ⟨b2, c2, d2, P, e1, e2, h1, h2, hn⟩
  · exact .inl h
  · exact .inr ⟨b2, c2, d2, P, e1, e2, h1.below k, h2.below k, hn⟩
theorem Im.quiet (h : Im w0 w p r b c d o1 o2 q s) (k : Below w.heap.size w w') : Im w0 w' p r b c d o1 o2 q s :=
  ⟨h.pa.below k, h.rf.below k, h.old.below k, bel2 h.bel k, h.lb, h.lc, h.ld⟩
/-- A call that has turned the program's paint. -/
theorem Im.pstep (h : Im w0 w p r b c d (some P) o2 q s) (hq : PaW w' b Q) (k : Kept (· = b) w w') : Im w0 w' p r b c d (some Q) o2 q s ∧ XK w w' := by
  have hp := h.pa.2
  refine ⟨⟨⟨h.pa.1, hq⟩, ?_, ?_, h.bel.trans (k.below h.bel.size fun i e => by rw [e]; exact h.lb), h.lb, h.lc, h.ld⟩, fun A cs hA => hA.kept k fun e => ?_⟩
  · have hr := h.rf
    cases o2 with
    | none => exact hr
    | some R => exact ⟨hr.1, hr.2.kept k (ne_bc hp hr.2).1 (ne_bc hp hr.2).2⟩
  · rcases h.old with h' | ⟨b2, c2, d2, R, e1, e2, h1, h2, n1, n2, n3⟩
    · exact .inl h'
    · exact .inr ⟨b2, c2, d2, R, e1, e2, h1.kept k n1, h2.kept k (ne_bc hp h2).1 (ne_bc hp h2).2, n1, n2, n3⟩
  · subst e
    exact absurd (hA.uniq hp.bk).1 (by decide)
/-- A call that has turned the document's colours. -/
theorem Im.rstep (h : Im w0 w p r b c d o1 (some P) q s) (hq : RfW w' c d Q) (k : Kept (· = d) w w') : Im w0 w' p r b c d o1 (some Q) q s ∧ XK w w' := by
  have hr := h.rf.2
  refine ⟨⟨?_, ⟨h.rf.1, hq⟩, ?_, h.bel.trans (k.below h.bel.size fun i e => by rw [e]; exact h.ld), h.lb, h.lc, h.ld⟩, fun A cs hA => hA.kept k fun e => ?_⟩
  · have hp := h.pa
    cases o1 with
    | none => exact hp
    | some R => exact ⟨hp.1, hp.2.kept k (ne_bc hp.2 hr).2.symm⟩
  · rcases h.old with h' | ⟨b2, c2, d2, R, e1, e2, h1, h2, n1, n2, n3⟩
    · exact .inl h'
    · exact .inr ⟨b2, c2, d2, R, e1, e2, h1.kept k (ne_bc h1 hr).2.symm, h2.kept k (ne_cd hr h2).1 n3, n1, n2, n3⟩
  · subst e
    obtain ⟨_, h2, _⟩ := hr.l
    exact absurd (hA.uniq h2).1 (by decide)
/-- The document's Clear: a new block of colours. -/
theorem Im.rclr (h : Im w0 w p r b c d o1 (some P) q s) (hq : RfW w' c w.heap.size Q) (k : Kept (· = c) w w') : Im w0 w' p r b c w.heap.size o1 (some Q) q s ∧ XK w w' := by
  have hr := h.rf.2
  refine ⟨⟨?_, ⟨h.rf.1, hq⟩, ?_, h.bel.trans (k.below h.bel.size fun i e => by rw [e]; exact h.lc), h.lb, h.lc, h.bel.size⟩, fun A cs hA => hA.kept k fun e => ?_⟩
  · have hp := h.pa
    cases o1 with
    | none => exact hp
    | some R => exact ⟨hp.1, hp.2.kept k (ne_bc hp.2 hr).1.symm⟩
  · rcases h.old with h' | ⟨b2, c2, d2, R, e1, e2, h1, h2, n1, n2, n3⟩
    · exact .inl h'
    · exact .inr ⟨b2, c2, d2, R, e1, e2, h1.kept k (ne_bc h1 hr).1.symm, h2.kept k n2 (ne_cd hr h2).2, n1, n2, by have := h2.dt; omega⟩
  · subst e
    obtain ⟨_, _, _, h2⟩ := hr.at_
    exact absurd (hA.uniq h2).1 (by decide)

/-! ### the program's calls -/
theorem im_shade (i : Int) (h : Im w0 w p r b c d o1 o2 q s) : Calls Try.prog 12 #[.pointer p, .int .i64 i] w fun e w' => e = .returned (.tuple #[.bool (oShB o1 i), .int .i64 (oChk o1 i)]) ∧ Im w0 w' p r b c d (oTurn o1 i 0 1) o2 q s ∧ XK w w' := by
  cases o1 with
  | none => exact (shade_inv p i w (.inl h.pa)).mono fun _ _ ⟨k1, k2⟩ => ⟨k1, h.quiet k2, xk_below k2⟩
  | some P => 
    have e := h.pa.1
    subst e
    exact (shade_ok b P i w h.pa.2).mono fun _ _ ⟨k1, k2, k3⟩ => ⟨k1, h.pstep k2 k3⟩
theorem im_black (i : Int) (h : Im w0 w p r b c d o1 o2 q s) : Calls Try.prog 14 #[.pointer p, .int .i64 i] w fun e w' => e = .returned (.int .i64 (oTE o1 i 1)) ∧ Im w0 w' p r b c d (oTurn o1 i 1 2) o2 q s ∧ XK w w' := by
  cases o1 with
  | none => exact (black_inv p i w (.inl h.pa)).mono fun _ _ ⟨k1, k2⟩ => ⟨k1, h.quiet k2, xk_below k2⟩
  | some P => 
    have e := h.pa.1
    subst e
    exact (black_ok b P i w h.pa.2).mono fun _ _ ⟨k1, k2, k3⟩ => ⟨k1, h.pstep k2 k3⟩
theorem im_born (i : Int) (h : Im w0 w p r b c d o1 o2 q s) : Calls Try.prog 16 #[.pointer p, .int .i64 i] w fun e w' => e = .returned (.int .i64 (oTE o1 i 0)) ∧ Im w0 w' p r b c d (oTurn o1 i 0 2) o2 q s ∧ XK w w' := by
  cases o1 with
  | none => exact (born_inv p i w (.inl h.pa)).mono fun _ _ ⟨k1, k2⟩ => ⟨k1, h.quiet k2, xk_below k2⟩
  | some P => 
    have e := h.pa.1
    subst e
    exact (born_ok b P i w h.pa.2).mono fun _ _ ⟨k1, k2, k3⟩ => ⟨k1, h.pstep k2 k3⟩
theorem im_bleach (i : Int) (h : Im w0 w p r b c d o1 o2 q s) : Calls Try.prog 18 #[.pointer p, .int .i64 i] w fun e w' => e = .returned (.int .i64 (oChk o1 i)) ∧ Im w0 w' p r b c d (oBl o1 i) o2 q s ∧ XK w w' := by
  cases o1 with
  | none => exact (bleach_inv p i w (.inl h.pa)).mono fun _ _ ⟨k1, k2⟩ => ⟨k1, h.quiet k2, xk_below k2⟩
  | some P => 
    have e := h.pa.1
    subst e
    exact (bleach_ok b P i w h.pa.2).mono fun _ _ ⟨k1, k2, k3⟩ => ⟨k1, h.pstep k2 k3⟩
theorem im_clear  (h : Im w0 w p r b c d o1 o2 q s) : Calls Try.prog 20 #[.pointer p] w fun e w' => e = .returned (.tuple #[]) ∧ Im w0 w' p r b c d (oClr o1) o2 q s ∧ XK w w' := by
  cases o1 with
  | none => exact (clear_inv p w (.inl h.pa)).mono fun _ _ ⟨k1, k2⟩ => ⟨k1, by subst k2; exact ⟨h, fun _ _ k => k⟩⟩
  | some P => 
    have e := h.pa.1
    subst e
    exact (clear_ok b P w h.pa.2).mono fun _ _ ⟨k1, k2, k3⟩ => ⟨k1, h.pstep k2 k3⟩

/-! ### the document's calls -/
theorem ir_shade (i : Int) (h : Im w0 w p r b c d o1 o2 q s) : Calls Try.prog 13 #[.pointer r, .int .i64 i] w fun e w' => e = .returned (.tuple #[.bool (oShB o2 i), .int .i64 (oChk o2 i)]) ∧ Im w0 w' p r b c d o1 (oTurn o2 i 0 1) q s ∧ XK w w' := by
  cases o2 with
  | none => 
    have e : r = none := h.rf
    rw [e]
    exact (rshade_nil i w).mono fun _ _ ⟨k1, k2⟩ => ⟨k1, by subst k2; rw [e] at h; exact ⟨h, fun _ _ k => k⟩⟩
  | some P => 
    have e := h.rf.1
    subst e
    exact (rshade_any c d P i w h.rf.2).mono fun _ _ ⟨k1, k2, k3⟩ => ⟨k1, h.rstep k2 k3⟩
theorem ir_black (i : Int) (h : Im w0 w p r b c d o1 o2 q s) : Calls Try.prog 15 #[.pointer r, .int .i64 i] w fun e w' => e = .returned (.int .i64 (oTE o2 i 1)) ∧ Im w0 w' p r b c d o1 (oTurn o2 i 1 2) q s ∧ XK w w' := by
  cases o2 with
  | none => 
    have e : r = none := h.rf
    rw [e]
    exact (rblack_nil i w).mono fun _ _ ⟨k1, k2⟩ => ⟨k1, by subst k2; rw [e] at h; exact ⟨h, fun _ _ k => k⟩⟩
  | some P => 
    have e := h.rf.1
    subst e
    exact (rblack_any c d P i w h.rf.2).mono fun _ _ ⟨k1, k2, k3⟩ => ⟨k1, h.rstep k2 k3⟩
theorem ir_born (i : Int) (h : Im w0 w p r b c d o1 o2 q s) : Calls Try.prog 17 #[.pointer r, .int .i64 i] w fun e w' => e = .returned (.int .i64 (oTE o2 i 0)) ∧ Im w0 w' p r b c d o1 (oTurn o2 i 0 2) q s ∧ XK w w' := by
  cases o2 with
  | none => 
    have e : r = none := h.rf
    rw [e]
    exact (rborn_nil i w).mono fun _ _ ⟨k1, k2⟩ => ⟨k1, by subst k2; rw [e] at h; exact ⟨h, fun _ _ k => k⟩⟩
  | some P => 
    have e := h.rf.1
    subst e
    exact (rborn_any c d P i w h.rf.2).mono fun _ _ ⟨k1, k2, k3⟩ => ⟨k1, h.rstep k2 k3⟩
theorem ir_bleach (i : Int) (h : Im w0 w p r b c d o1 o2 q s) : Calls Try.prog 19 #[.pointer r, .int .i64 i] w fun e w' => e = .returned (.int .i64 (oChk o2 i)) ∧ Im w0 w' p r b c d o1 (oBl o2 i) q s ∧ XK w w' := by
  cases o2 with
  | none => 
    have e : r = none := h.rf
    rw [e]
    exact (rbleach_nil i w).mono fun _ _ ⟨k1, k2⟩ => ⟨k1, by subst k2; rw [e] at h; exact ⟨h, fun _ _ k => k⟩⟩
  | some P => 
    have e := h.rf.1
    subst e
    exact (rbleach_any c d P i w h.rf.2).mono fun _ _ ⟨k1, k2, k3⟩ => ⟨k1, h.rstep k2 k3⟩
theorem ir_clear (h : Im w0 w p r b c d o1 o2 q s) : Calls Try.prog 21 #[.pointer r] w fun e w' => e = .returned (.tuple #[]) ∧ (∃ d', Im w0 w' p r b c d' o1 (oClr o2) q s) ∧ XK w w' := by
  cases o2 with
  | none =>
    have e : r = none := h.rf
    rw [e]
    exact (rclear_nil w).mono fun _ _ ⟨k1, k2⟩ => ⟨k1, by subst k2; rw [e] at h; exact ⟨⟨d, h⟩, fun _ _ k => k⟩⟩
  | some P =>
    have e := h.rf.1
    subst e
    exact (rclear_any c d P w h.rf.2).mono fun _ _ ⟨k1, k2, k3⟩ => ⟨k1, ⟨_, (h.rclr k2 k3).1⟩, (h.rclr k2 k3).2⟩

/-! ### Copy: the pair becomes the older one -/
/-- Between the two copies: the program's paint is new, the document's is still the old one. -/
structure Cp (w0 w : World) (p p' r : Option Addr) (b b' c d : Nat) (o : Option Pt) : Prop where
  pa : PaO w p b o
  pa' : PaO w p' b' o
  rf : RfO w r c d o
  bel : Below w0.heap.size w0 w
  lb : w0.heap.size ≤ b'
  lc : w0.heap.size ≤ c
  ld : w0.heap.size ≤ d
  ne : o ≠ none → b ≠ b'
theorem im_copy {o : Option Pt} (h : Im w0 w p r b c d o o q s) : Calls Try.prog 22 #[.pointer p] w fun e w' => ∃ p' b', e = .returned (.pointer p') ∧ Cp w0 w' p p' r b b' c d o ∧ XK w w' := by
  cases o with
  | none => exact (copy_inv p w (.inl h.pa)).mono fun _ _ ⟨k1, k2⟩ => ⟨none, b, k1, by subst k2; exact ⟨⟨h.pa, rfl, h.rf, h.bel, h.lb, h.lc, h.ld, fun x => absurd rfl x⟩, fun _ _ k => k⟩⟩
  | some P =>
    have e := h.pa.1
    subst e
    refine (copy_ok b P w h.pa.2).mono fun _ w' ⟨k1, k2, k3⟩ => ⟨_, w.heap.size, k1, ⟨h.pa.below k3, ⟨rfl, k2⟩, h.rf.below k3, bel2 h.bel k3, h.bel.size, h.lc, h.ld, fun _ => ?_⟩, xk_below k3⟩
    have := h.pa.2.bt
    omega
theorem ir_copy {o : Option Pt} {p' : Option Addr} {b' : Nat} (h : Cp w0 w p p' r b b' c d o) : Calls Try.prog 23 #[.pointer r] w fun e w' => ∃ r' c' d', e = .returned (.pointer r') ∧ Im w0 w' p' r' b' c' d' o o p r ∧ XK w w' := by
  cases o with
  | none =>
    have e : r = none := h.rf
    rw [e]
    exact (rcopy_nil w).mono fun _ _ ⟨k1, k2⟩ => ⟨none, c, d, k1, by subst k2; exact ⟨⟨h.pa', rfl, .inl ⟨h.pa, rfl⟩, h.bel, h.lb, h.lc, h.ld⟩, fun _ _ k => k⟩⟩
  | some P =>
    have e := h.rf.1
    have e2 := h.pa.1
    subst e e2
    refine (rcopy_any c d P w h.rf.2).mono fun _ w' ⟨c', d', h1, h2, k1, k2, k3⟩ => ⟨_, c', d', k1, ⟨h.pa'.below k3, ⟨rfl, k2⟩, .inr ⟨b, c, d, P, rfl, rfl, h.pa.2.below k3, h.rf.2.below k3, h.ne (by simp), ?_, ?_⟩, bel2 h.bel k3, h.lb, Nat.le_trans h.bel.size h1, Nat.le_trans h.bel.size h2⟩, xk_below k3⟩
    · have := h.rf.2.ct; omega
    · have := h.rf.2.dt; omega

/-! ### what both show -/
theorem im_shows {o : Option Pt} (i : Int) (hi : i ≤ 9223372036854775807) (h : Im w0 w p r b c d o o q s) : Calls Try.prog 24 #[.pointer p, .pointer r, .int .i64 i] w fun e w' => e = .returned (.bool true) ∧ Im w0 w' p r b c d o o q s ∧ XK w w' :=
  (shows_ok p r b c d o i hi w h.pa h.rf).mono fun _ _ ⟨k1, k2⟩ => ⟨k1, h.quiet k2, xk_below k2⟩
theorem im_shows2 {o : Option Pt} (i : Int) (hi : i ≤ 9223372036854775807) (h : Im w0 w p r b c d o o q s) : Calls Try.prog 24 #[.pointer q, .pointer s, .int .i64 i] w fun e w' => e = .returned (.bool true) ∧ Im w0 w' p r b c d o o q s ∧ XK w w' := by
  rcases h.old with ⟨rfl, rfl⟩ | ⟨b2, c2, d2, P, rfl, rfl, h1, h2, _⟩
  · exact (shows_ok none none b c d none i hi w rfl rfl).mono fun _ _ ⟨k1, k2⟩ => ⟨k1, h.quiet k2, xk_below k2⟩
  · exact (shows_ok _ _ b2 c2 d2 (some P) i hi w ⟨rfl, h1⟩ ⟨rfl, h2⟩).mono fun _ _ ⟨k1, k2⟩ => ⟨k1, h.quiet k2, xk_below k2⟩
end

/-! ### New -/
def oNew (size : Int) : Option Pt := if 1 ≤ size ∧ size ≤ 256 then some (white size.toNat) else none
def oNewE (size : Int) : Int := if 1 ≤ size ∧ size ≤ 256 then 0 else 2
theorem new_o (size : Int) (w : World) : Calls Try.prog 10 #[.int .i64 size] w fun e w' => ∃ p b, w.heap.size ≤ b ∧ e = .returned (.tuple #[.pointer p, .int .i64 (oNewE size)]) ∧ PaO w' p b (oNew size) ∧ Below w.heap.size w w' := by
  unfold oNew oNewE
  by_cases h : 1 ≤ size ∧ size ≤ 256
  · rw [if_pos h, if_pos h]
    obtain ⟨n, rfl⟩ : ∃ n : Nat, size = n := ⟨size.toNat, by omega⟩
    rw [Int.toNat_natCast]
    exact (new_ok n w (by omega) (by omega)).mono fun _ _ ⟨k1, k2, k3⟩ => ⟨_, _, Nat.le_refl _, k1, ⟨rfl, k2⟩, k3⟩
  · rw [if_neg h, if_neg h]
    exact (new_bad size w (by omega)).mono fun _ _ ⟨k1, k2⟩ => ⟨none, w.heap.size, Nat.le_refl _, k1, rfl, by subst k2; exact Below.refl _ _⟩
theorem rnew_o (size : Int) (w : World) : Calls Try.prog 11 #[.int .i64 size] w fun e w' => ∃ r c d, w.heap.size ≤ c ∧ w.heap.size ≤ d ∧ e = .returned (.tuple #[.pointer r, .int .i64 (oNewE size)]) ∧ RfO w' r c d (oNew size) ∧ Below w.heap.size w w' := by
  unfold oNew oNewE
  by_cases h : 1 ≤ size ∧ size ≤ 256
  · rw [if_pos h, if_pos h]
    obtain ⟨n, rfl⟩ : ∃ n : Nat, size = n := ⟨size.toNat, by omega⟩
    rw [Int.toNat_natCast]
    exact (rnew_ok n w (by omega) (by omega)).mono fun _ _ ⟨c, d, k1, k2, k3, k4, k5⟩ => ⟨_, c, d, k1, k2, k3, ⟨rfl, k4⟩, k5⟩
  · rw [if_neg h, if_neg h]
    exact (rnew_bad size w (by omega)).mono fun _ _ ⟨k1, k2⟩ => ⟨none, w.heap.size, w.heap.size, Nat.le_refl _, Nat.le_refl _, k1, rfl, by subst k2; exact Below.refl _ _⟩
theorem none_o {w w' : World} {p r : Option Addr} {b c d : Nat} {o : Option Pt} (h1 : PaO w p b o) (h2 : RfO w' r c d o) : (!(p.isNone == r.isNone)) = false := by
  cases o with
  | none => rw [show p = none from h1, show r = none from h2]; rfl
  | some P => rw [h1.1, h2.1]; rfl
end Go.Proofs.Ythcpmcdgojgdlaa
