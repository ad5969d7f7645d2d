/- The state of a desk between calls: each call of the program's, told by it. -/
import Derived.Test.YtfemfgpciogbeaaYg
namespace Go.Proofs.Ytfemfgpciogbeaa
open Go.RowKit

/-- A desk of the program's, in memory that was made since w0. -/
structure DSt (w0 w : World) (b k a : Nat) (D : Dk) : Prop where
  f : DkW w b k a D
  bel : Below w0.heap.size w0 w
  lo : ∀ g, DFoot b k a g → w0.heap.size ≤ g
section
variable {w0 w w' : World} {b k a : Nat} {D U : Dk}
theorem DSt.quiet (h : DSt w0 w b k a D) (q : Below w.heap.size w w') : DSt w0 w' b k a D := ⟨h.f.below q, bel2 h.bel q, h.lo⟩
theorem DSt.step (h : DSt w0 w b k a D) (q : Kept (DFoot b k a) w w') (hf : DkW w' b k a U) : DSt w0 w' b k a U :=
  ⟨hf, h.bel.trans (q.below h.bel.size h.lo), h.lo⟩
theorem DSt.new (h : DNew D w b w') : ∃ k a, DSt w w' b k a D := by
  obtain ⟨k, a, h1, h2, h3⟩ := h
  exact ⟨k, a, h1, h3, h2⟩
/-- What a desk leaves as it is: a block of another type. -/
theorem DkW.keep {A : Nat} {t : TypeId} {cs : Array Value} (h : DkW w b k a D) (hA : Bk w A t cs) (q : Kept (DFoot b k a) w w') (ht1 : t ≠ 54 := by decide) (ht2 : t ≠ 105 := by decide) (ht3 : t ≠ 78 := by decide) : Bk w' A t cs := hA.kept q (h.off hA ht1 ht2 ht3)
theorem DSt.box {A : Nat} {cs : Array Value} (h : DSt w0 w b k a D) (hA : Bk w A 33 cs) (q : Kept (DFoot b k a) w w') : Bk w' A 33 cs := h.f.keep hA q
/-- A slice that owns its row. -/
def RowO (w : World) (v : Value) (l : List Ro) : Prop := ∃ base, w.ownsRow base 33 3 v l.length (ocls l)
theorem RowO.rd {v : Value} {l : List Ro} (h : RowO w v l) : RdO w v l := by obtain ⟨_, h⟩ := h; exact RdO.of_own h
theorem RowO.below {v : Value} {l : List Ro} (h : RowO w v l) (q : Below w.heap.size w w') : RowO w' v l := by obtain ⟨_, h⟩ := h; exact ⟨_, own_below h q⟩
theorem own_kept {v : Value} {n s base : Nat} {e : TypeId} {xs : List Value} (h : w.ownsRow base e s v n xs) (f : DkW w b k a D) (q : Kept (DFoot b k a) w w') (ht1 : e ≠ 54 := by decide) (ht2 : e ≠ 105 := by decide) (ht3 : e ≠ 78 := by decide) : w'.ownsRow base e s v n xs := by
  refine own_same h fun g hg => ?_
  rcases h.2 with ⟨rfl, _⟩ | ⟨g', cap, cur, rfl, _, h2, _⟩
  · cases hg
  · obtain rfl : g' = g := by simpa [Value.ownBlock] using hg
    have hb : Bk w g' e cur := h2
    exact q.block g' hb.lt (f.off hb ht1 ht2 ht3)
theorem RowO.kept {v : Value} {l : List Ro} (h : RowO w v l) (f : DkW w b k a D) (q : Kept (DFoot b k a) w w') : RowO w' v l := by
  obtain ⟨base, h⟩ := h
  exact ⟨base, own_kept h f q⟩
/-- The calls, told of the state. -/
theorem grant_s (x now K I G E : Int) (h : DSt w0 w b k a D) (e1 : (D.gK x now : Int) = K) (e2 : (D.gI x now : Int) = I) (e3 : (D.gG x now : Int) = G) (e4 : D.gE x now = E) : Calls Try.prog 13 #[.pointer (some ⟨b, 0, none⟩), .int .i64 x, .int .i64 now] w fun e w' =>
    e = .returned (.tuple #[.agg #[.int .i64 K, .int .i64 I, .int .u32 G], .int .i64 E]) ∧ Hid (DSt w0 w' b k a (D.grant x now)) ∧ Hid (Kept (DFoot b k a) w w') := by
  refine (dgrant_ok b k a D x now w h.f).mono ?_
  rintro e w' ⟨rfl, h1, h2⟩
  exact ⟨by rw [e1, e2, e3, e4], h.step h2 h1, h2⟩
theorem renew_s (x y z t now E : Int) (h : DSt w0 w b k a D) (hr : RgO x y z) (e : D.rE x y z t now = E) : Calls Try.prog 15 #[.pointer (some ⟨b, 0, none⟩), .agg #[.int .i64 x, .int .i64 y, .int .u32 z], .int .i64 t, .int .i64 now] w fun e w' =>
    e = .returned (.int .i64 E) ∧ Hid (DSt w0 w' b k a (D.renew x y z t now)) ∧ Hid (Kept (DFoot b k a) w w') := by
  refine (drenew_ok b k a D x y z t now hr w h.f).mono ?_
  rintro e w' ⟨rfl, h1, h2⟩
  exact ⟨by rw [e], h.step h2 h1, h2⟩
theorem ret_s (x y z E : Int) (h : DSt w0 w b k a D) (hr : RgO x y z) (e : D.chk x y z = E) : Calls Try.prog 17 #[.pointer (some ⟨b, 0, none⟩), .agg #[.int .i64 x, .int .i64 y, .int .u32 z]] w fun e w' =>
    e = .returned (.int .i64 E) ∧ Hid (DSt w0 w' b k a (D.ret x y z)) ∧ Hid (Kept (DFoot b k a) w w') := by
  refine (dret_ok b k a D x y z hr w h.f).mono ?_
  rintro e w' ⟨rfl, h1, h2⟩
  exact ⟨by rw [e], h.step h2 h1, h2⟩
theorem until_s (x y z N E : Int) (h : DSt w0 w b k a D) (hr : RgO x y z) (e1 : (D.til x y z : Int) = N) (e2 : D.chk x y z = E) : Calls Try.prog 19 #[.pointer (some ⟨b, 0, none⟩), .agg #[.int .i64 x, .int .i64 y, .int .u32 z]] w fun e w' =>
    e = .returned (.tuple #[.int .i64 N, .int .i64 E]) ∧ Hid (DSt w0 w' b k a D) ∧ Hid (Below w.heap.size w w') := by
  refine (duntil_ok b k a D x y z hr w h.f).mono ?_
  rintro e w' ⟨rfl, h1⟩
  exact ⟨by rw [e1, e2], h.quiet h1, h1⟩
theorem over_s (x y z now E : Int) (v : Bool) (h : DSt w0 w b k a D) (hr : RgO x y z) (e1 : D.ovr x y z now = v) (e2 : D.oE x y z now = E) : Calls Try.prog 21 #[.pointer (some ⟨b, 0, none⟩), .agg #[.int .i64 x, .int .i64 y, .int .u32 z], .int .i64 now] w fun e w' =>
    e = .returned (.tuple #[.bool v, .int .i64 E]) ∧ Hid (DSt w0 w' b k a D) ∧ Hid (Below w.heap.size w w') := by
  refine (dover_ok b k a D x y z now hr w h.f).mono ?_
  rintro e w' ⟨rfl, h1⟩
  exact ⟨by rw [e1, e2], h.quiet h1, h1⟩
theorem len_s (N : Nat) (h : DSt w0 w b k a D) (e1 : D.t.held.length = N) : Calls Try.prog 25 #[.pointer (some ⟨b, 0, none⟩)] w fun e w' =>
    e = .returned (.int .i64 N) ∧ Hid (DSt w0 w' b k a D) ∧ Hid (Below w.heap.size w w') := by
  refine (dlen_ok b k a D w h.f).mono ?_
  rintro e w' ⟨rfl, h1⟩
  exact ⟨by rw [e1], h.quiet h1, h1⟩
theorem all_s (l : List Ro) (h : DSt w0 w b k a D) (e : D.all = l) : Calls Try.prog 28 #[.pointer (some ⟨b, 0, none⟩)] w fun e w' =>
    ∃ p c, e = .returned (.slice p l.length c) ∧ Hid (RowO w' (.slice p l.length c) l) ∧ Hid (DSt w0 w' b k a D) ∧ Hid (Below w.heap.size w w') := by
  refine (dall_ok b k a D w h.f).mono ?_
  rintro e' w' ⟨p, c, rfl, h1, h2⟩
  subst e
  exact ⟨p, c, rfl, ⟨_, h1⟩, h.quiet h2, h2⟩
end
theorem ob_cells {w : World} {A : Nat} {x y z : Value} (h : Bk w A 33 #[x, y, z]) : w.cell? ⟨A, 0, none⟩ = some x ∧ w.cell? ⟨A, 1, none⟩ = some y ∧ w.cell? ⟨A, 2, none⟩ = some z ∧ A < w.heap.size := ⟨h.cell 0, h.cell 1, h.cell 2, h.lt⟩
theorem cells3 {w : World} {A : Nat} {x y z : Value} (h : Bk w A 33 #[x, y, z]) : w.cell? ⟨A, 0, none⟩ = some x ∧ w.cell? ⟨A, 1, none⟩ = some y ∧ w.cell? ⟨A, 2, none⟩ = some z := ⟨h.cell 0, h.cell 1, h.cell 2⟩
/-- The helper lease of the statements. -/
theorem llease_ok (i g : Int) (w : World) : Calls Try.prog 35 #[.int .i64 i, .int .u32 g] w fun e w' => e = .returned (.agg #[.int .i64 3, .int .i64 i, .int .u32 g]) ∧ Below w.heap.size w w' := by
  go_enter Try.func35, Try.ntmps35
  go_wp2
  refine bodyPost_ret (v := .agg #[.int .i64 3, .int .i64 i, .int .u32 g]) (by simp [results, Try.results35, go_sem]) rfl ⟨rfl, ?_⟩
  exact (Below.refl _ _).alloc (Nat.le_refl _) _
/-- A literal that holds l. -/
theorem RdO.lit {w : World} {g : Nat} {l : List Ro} {cs : Array Value} (h : Bk w g 33 cs) (e : cs.toList = ocls l) (hl : l.length ≤ 1000) : RdO w (.slice (some ⟨g, 0, none⟩) l.length l.length) l :=
  ⟨_, _, rfl, Nat.le_refl _, by omega, fun e => (by cases e), fun _ => ⟨g, 0, rfl, h.lt, fun j x hj => by rw [Nat.zero_add, h.cell, ← hj, ← e, Array.getElem?_toList]⟩⟩
end Go.Proofs.Ytfemfgpciogbeaa
