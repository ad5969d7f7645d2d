/- Both sources at once, with those that were copied, and the box of a step: every call of AnswerPlays at that level. -/
import Derived.Test.YtllfmancfkmimaaDoorAeo
import Derived.Test.YtllfmancfkmimaaDoorAl
namespace Go.Proofs.YtllfmancfkmimaaDoor
open Go.RowKit

/-- The program's source p has L, the document's r has M; o: the sources that were copied, and what both have. -/
structure PSt (w0 w : World) (p r : Nat) (L M : List Int) (o : Option (Nat × Nat × List Int)) : Prop where
  env : Env w0
  s : SrcW 43 w p L
  t : SrcW 62 w r M
  bel : Below w0.heap.size w0 w
  lp : w0.heap.size ≤ p
  lr : w0.heap.size ≤ r
  old : ∀ x, o = some x → SrcW 43 w x.1 x.2.2 ∧ SrcW 62 w x.2.1 x.2.2 ∧ x.1 ≠ p ∧ x.2.1 ≠ r ∧ w0.heap.size ≤ x.1 ∧ w0.heap.size ≤ x.2.1
theorem PSt.below {w0 w w' : World} {p r : Nat} {L M : List Int} {o : Option (Nat × Nat × List Int)} (h : PSt w0 w p r L M o) (k : Below w.heap.size w w') : PSt w0 w' p r L M o :=
  ⟨h.env, h.s.below k, h.t.below k, bel2 h.bel k, h.lp, h.lr, fun x e => by obtain ⟨h1, h2, h3⟩ := h.old x e; exact ⟨h1.below k, h2.below k, h3⟩⟩
theorem PSt.e {w0 w : World} {p r : Nat} {L M : List Int} {o : Option (Nat × Nat × List Int)} (h : PSt w0 w p r L M o) : Env w := h.env.below h.bel
/-- .. and the step lies in block x. -/
structure SSt (w0 w : World) (p r : Nat) (L M : List Int) (o : Option (Nat × Nat × List Int)) (x : Nat) (D N : Int) (T : ByteArray) : Prop where
  m : PSt w0 w p r L M o
  b : Bk w x 37 #[.int .i64 D, .int .i64 N, .string T]
section
variable {w0 w w' : World} {p r x : Nat} {L M : List Int} {o : Option (Nat × Nat × List Int)} {D N : Int} {T : ByteArray}
theorem SSt.cn (h : SSt w0 w p r L M o x D N T) : w.cell? ⟨x, 1, none⟩ = some (.int .i64 N) := h.b.cell 1
theorem SSt.ct (h : SSt w0 w p r L M o x D N T) : w.cell? ⟨x, 2, none⟩ = some (.string T) := h.b.cell 2
theorem SSt.cd (h : SSt w0 w p r L M o x D N T) : w.cell? ⟨x, 0, none⟩ = some (.int .i64 D) := h.b.cell 0
theorem SSt.below (h : SSt w0 w p r L M o x D N T) (k : Below w.heap.size w w') : SSt w0 w' p r L M o x D N T := ⟨h.m.below k, h.b.below k⟩
theorem SSt.same (h : SSt w0 w p r L M o x D N T) (e1 : w'.heap = w.heap) (e2 : w'.os = w.os) (e3 : w'.tape = w.tape) (e4 : w'.output = w.output) : SSt w0 w' p r L M o x D N T :=
  h.below ⟨e2, e3, e4, by rw [e1]; exact Nat.le_refl _, fun k _ => by rw [e1]⟩
/-- The program's source is turned. -/
theorem SSt.turn_p (h : SSt w0 w p r L M o x D N T) {L' : List Int} (h2 : SrcW 43 w' p L') (k : Kept (· = p) w w') : SSt w0 w' p r L' M o x D N T := by
  obtain ⟨a, c, hb, _⟩ := h.m.s.at_
  refine ⟨⟨h.m.env, h2, h.m.t.other h.m.s k (h.m.t.ne h.m.s (by decide)) (by decide), kept_bel h.m.bel k h.m.lp, h.m.lp, h.m.lr, fun y e => ?_⟩, h.b.kept k fun e => absurd ((show Bk w p _ _ from e ▸ h.b).uniq hb).1 (by decide)⟩
  obtain ⟨h3, h4, h5, h6, h7⟩ := h.m.old y e
  exact ⟨h3.other h.m.s k h5 (by decide), h4.other h.m.s k (h4.ne h.m.s (by decide)) (by decide), h5, h6, h7⟩
theorem SSt.turn_r (h : SSt w0 w p r L M o x D N T) {M' : List Int} (h2 : SrcW 62 w' r M') (k : Kept (· = r) w w') : SSt w0 w' p r L M' o x D N T := by
  obtain ⟨a, c, hb, _⟩ := h.m.t.at_
  refine ⟨⟨h.m.env, h.m.s.other h.m.t k (h.m.s.ne h.m.t (by decide)) (by decide), h2, kept_bel h.m.bel k h.m.lr, h.m.lp, h.m.lr, fun y e => ?_⟩, h.b.kept k fun e => absurd ((show Bk w r _ _ from e ▸ h.b).uniq hb).1 (by decide)⟩
  obtain ⟨h3, h4, h5, h6, h7⟩ := h.m.old y e
  exact ⟨h3.other h.m.t k (h3.ne h.m.t (by decide)) (by decide), h4.other h.m.t k h6 (by decide), h5, h6, h7⟩
theorem SSt.add_p (h : SSt w0 w p r L M o x D N T) (s : ByteArray) (hs : s.size ≤ 140737488351232) {E : Nat} {L' : List Int} (hE : aE L s.data.toList = E) (hL : aL L s.data.toList = L') :
    Calls Tryd.prog 19 #[.pointer (some ⟨p, 0, none⟩), .string s] w fun e w' => e = .returned (.int .i64 E) ∧ SSt w0 w' p r L' M o x D N T :=
  (add_ok s p L w h.m.e h.m.s hs).mono fun _ _ ⟨h1, h2, h3⟩ => by rw [hE] at h1; rw [hL] at h2; exact ⟨h1, h.turn_p h2 h3⟩
theorem SSt.add_r (h : SSt w0 w p r L M o x D N T) (s : ByteArray) (hs : s.size ≤ 140737488351232) {E : Nat} {M' : List Int} (hE : aE M s.data.toList = E) (hL : aL M s.data.toList = M') :
    Calls Tryd.prog 20 #[.pointer (some ⟨r, 0, none⟩), .string s] w fun e w' => e = .returned (.int .i64 E) ∧ SSt w0 w' p r L M' o x D N T :=
  (radd_ok s r M w h.m.t hs).mono fun _ _ ⟨h1, h2, h3⟩ => by rw [hE] at h1; rw [hL] at h2; exact ⟨h1, h.turn_r h2 h3⟩
theorem SSt.next_p (h : SSt w0 w p r L M o x D N T) {y : Int} {L' : List Int} (hE : L.headD 1 = y) (hL : L.tail = L') :
    Calls Tryd.prog 21 #[.pointer (some ⟨p, 0, none⟩)] w fun e w' => e = .returned (.int .i64 y) ∧ SSt w0 w' p r L' M o x D N T :=
  (next_ok p L w h.m.s).mono fun _ _ ⟨h1, h2, h3⟩ => by rw [hE] at h1; rw [hL] at h2; exact ⟨h1, h.turn_p h2 h3⟩
theorem SSt.next_r (h : SSt w0 w p r L M o x D N T) {y : Int} {M' : List Int} (hE : M.headD 1 = y) (hL : M.tail = M') :
    Calls Tryd.prog 22 #[.pointer (some ⟨r, 0, none⟩)] w fun e w' => e = .returned (.int .i64 y) ∧ SSt w0 w' p r L M' o x D N T :=
  (rnext_ok r M w h.m.t).mono fun _ _ ⟨h1, h2, h3⟩ => by rw [hE] at h1; rw [hL] at h2; exact ⟨h1, h.turn_r h2 h3⟩
end
section
variable {w0 w w' : World} {p r x : Nat} {L M : List Int} {o : Option (Nat × Nat × List Int)}
theorem PSt.left_p (h : PSt w0 w p r L M o) : Calls Tryd.prog 27 #[.pointer (some ⟨p, 0, none⟩)] w fun e w' => e = .returned (.int .i64 L.length) ∧ w = w' := left_ok p L w h.s
theorem PSt.left_r (h : PSt w0 w p r L M o) : Calls Tryd.prog 28 #[.pointer (some ⟨r, 0, none⟩)] w fun e w' => e = .returned (.int .i64 M.length) ∧ w = w' := rleft_ok r M w h.t
/-- A slice that reads as K; the rest is as it was. -/
def PkV (w0 w : World) (p r : Nat) (L M : List Int) (o : Option (Nat × Nat × List Int)) (K : List Int) (e : Ending) (w' : World) : Prop :=
  ∃ a c, e = .returned (.slice a K.length c) ∧ Sl w' (.slice a K.length c) K ∧ PSt w0 w' p r L M o ∧ Below w.heap.size w w'
theorem pkV_of {w0 w w' : World} {p r : Nat} {L M : List Int} {o : Option (Nat × Nat × List Int)} {K : List Int} {e : Ending} (h : PSt w0 w p r L M o) (k : NewV K w e w') : PkV w0 w p r L M o K e w' := by
  obtain ⟨v, h1, h2, h3⟩ := k
  have hs := Sl.of_own h2
  obtain ⟨a, c, rfl, hs2⟩ := hs.len
  exact ⟨a, c, h1, hs2, h.below h3, h3⟩
theorem PSt.peek_p (h : PSt w0 w p r L M o) (n : Int) {K : List Int} (hK : L.take n.toNat = K) : Calls Tryd.prog 23 #[.pointer (some ⟨p, 0, none⟩), .int .i64 n] w (PkV w0 w p r L M o K) :=
  (peek_ok p n L w h.s).mono fun _ _ k => pkV_of h (hK ▸ k)
theorem PSt.peek_r (h : PSt w0 w p r L M o) (n : Int) {K : List Int} (hK : M.take n.toNat = K) : Calls Tryd.prog 24 #[.pointer (some ⟨r, 0, none⟩), .int .i64 n] w (PkV w0 w p r L M o K) :=
  (rpeek_ok r n M w h.t).mono fun _ _ k => pkV_of h (hK ▸ k)
/-- The sources that were copied come to the front. -/
theorem PSt.swap {p' r' : Nat} {L' : List Int} (h : PSt w0 w p r L L (some (p', r', L'))) : PSt w0 w p' r' L' L' (some (p, r, L)) := by
  obtain ⟨h1, h2, h3, h4, h5, h6⟩ := h.old _ rfl
  exact ⟨h.env, h1, h2, h.bel, h5, h6, fun x e => by cases e; exact ⟨h.s, h.t, fun e => h3 e.symm, fun e => h4 e.symm, h.lp, h.lr⟩⟩
theorem PSt.copy_p (h : PSt w0 w p r L L o) : Calls Tryd.prog 25 #[.pointer (some ⟨p, 0, none⟩)] w fun e w' => ∃ p2, e = .returned (.pointer (some ⟨p2, 0, none⟩)) ∧ SrcW 43 w' p2 L ∧ w.heap.size ≤ p2 ∧ PSt w0 w' p r L L o ∧ Below w.heap.size w w' :=
  (copy_ok p L w h.s).mono fun _ _ ⟨b, h1, h2, h3, h4⟩ => ⟨b, h2, h3, h1, h.below h4, h4⟩
theorem PSt.copy_r (h : PSt w0 w p r L L o) {p2 : Nat} (h5 : SrcW 43 w p2 L) (h6 : p < p2) : Calls Tryd.prog 26 #[.pointer (some ⟨r, 0, none⟩)] w fun e w' => ∃ r2, e = .returned (.pointer (some ⟨r2, 0, none⟩)) ∧ PSt w0 w' p2 r2 L L (some (p, r, L)) ∧ Below w.heap.size w w' :=
  (rcopy_ok r L w h.t).mono fun _ w' ⟨b, h1, h2, h3, h4⟩ => ⟨b, h2, by
    have hp := h.below h4
    have hr := h.t.lt
    have := h.lp
    have := h.lr
    refine ⟨h.env, h5.below h4, h3, hp.bel, by omega, by omega, fun y e => ?_⟩
    cases e
    exact ⟨hp.s, hp.t, by show p ≠ p2; omega, by show r ≠ b; omega, h.lp, h.lr⟩, h4⟩
end
end Go.Proofs.YtllfmancfkmimaaDoor
