/- The state of a pool between calls: each call of the program's, told by it. -/
import Derived.Test.YtjhgckaaaonbiaaUf
namespace Go.Proofs.Ytjhgckaaaonbiaa
open Go.RowKit

/-- A pool of the program's, in memory that was made since w0. -/
structure PSt (w0 w : World) (b s k : Nat) (P : Po) : Prop where
  f : PW w b s k P
  bel : Below w0.heap.size w0 w
  lo : ∀ g, PFoot b s k g → w0.heap.size ≤ g
section
variable {w0 w w' : World} {b s k : Nat} {P Q : Po}
theorem PSt.quiet (h : PSt w0 w b s k P) (q : Below w.heap.size w w') : PSt w0 w' b s k P := ⟨h.f.below q, bel2 h.bel q, h.lo⟩
theorem PSt.step (h : PSt w0 w b s k P) (q : Kept (PFoot b s k) w w') (hf : PW w' b s k Q) : PSt w0 w' b s k Q :=
  ⟨hf, h.bel.trans (q.below h.bel.size h.lo), h.lo⟩
theorem PSt.new (h : PNew P w b w') : ∃ s k, PSt w w' b s k P := by
  obtain ⟨s, k, h1, h2, h3⟩ := h
  exact ⟨s, k, h1, h3, h2⟩
/-- A block of another type is no part of a pool. -/
theorem PW.box {A : Nat} {t : TypeId} {cs : Array Value} (h : PW w b s k P) (hA : Bk w A t cs) (ht1 : t ≠ 46) (ht2 : t ≠ 98) (ht3 : t ≠ 73) : ¬ PFoot b s k A := by
  rintro (rfl | rfl | rfl)
  · exact ht1 (hA.uniq h.hb).1
  · exact ht3 (hA.uniq h.hs).1
  · exact ht2 (hA.uniq h.tab.bk).1
theorem PW.keep {A : Nat} {t : TypeId} {cs : Array Value} (h : PW w b s k P) (hA : Bk w A t cs) (q : Kept (PFoot b s k) w w') (ht1 : t ≠ 46 := by decide) (ht2 : t ≠ 98 := by decide) (ht3 : t ≠ 73 := by decide) : Bk w' A t cs := hA.kept q (h.box hA ht1 ht2 ht3)
theorem PSt.box {A : Nat} {cs : Array Value} (h : PSt w0 w b s k P) (hA : Bk w A 34 cs) (q : Kept (PFoot b s k) w w') : Bk w' A 34 cs := hA.kept q (h.f.box hA (by decide) (by decide) (by decide))
/-- A slice that owns its row. -/
def RowO (w : World) (v : Value) (l : List Ro) : Prop := ∃ base, w.ownsRow base 34 3 v l.length (ocls l)
theorem RowO.rd {v : Value} {l : List Ro} (h : RowO w v l) : RdO w v l := by obtain ⟨_, h⟩ := h; exact RdO.of_own h
theorem RowO.below {v : Value} {l : List Ro} (h : RowO w v l) (q : Below w.heap.size w w') : RowO w' v l := by obtain ⟨_, h⟩ := h; exact ⟨_, own_below h q⟩
theorem RowO.kept {v : Value} {l : List Ro} (h : RowO w v l) (f : PW w b s k P) (q : Kept (PFoot b s k) w w') : RowO w' v l := by
  obtain ⟨base, h⟩ := h
  refine ⟨base, own_same h fun g hg => ?_⟩
  rcases h.2 with ⟨rfl, _⟩ | ⟨g', cap, cur, rfl, _, h2, _⟩
  · cases hg
  · obtain rfl : g' = g := by simpa [Value.ownBlock] using hg
    have hb : Bk w g' 34 cur := h2
    exact q.block g' hb.lt (f.box hb (by decide) (by decide) (by decide))
theorem kept_sk (q : Kept (fun g => g = s ∨ g = k) w w') : Kept (PFoot b s k) w w' := q.mono fun _ _ e => by rcases e with e | e; exact .inr (.inl e); exact .inr (.inr e)
theorem kept_k (q : Kept (· = k) w w') : Kept (PFoot b s k) w w' := q.mono fun _ _ e => .inr (.inr e)
/-- The calls, told of the state. -/
theorem pin_s (x K I G E : Int) (h : PSt w0 w b s k P) (e1 : (P.pK x : Int) = K) (e2 : (P.pI x : Int) = I) (e3 : (P.pG x : Int) = G) (e4 : P.can x = E) : Calls Try.prog 13 #[.pointer (some ⟨b, 0, none⟩), .int .i64 x] w fun e w' =>
    e = .returned (.tuple #[.agg #[.int .i64 K, .int .i64 I, .int .u32 G], .int .i64 E]) ∧ Hid (PSt w0 w' b s k (P.pin x)) ∧ Hid (Kept (PFoot b s k) w w') := by
  refine (ppin_any b s k P x w h.f).mono ?_
  rintro e w' ⟨rfl, h1, h2⟩
  exact ⟨by rw [e1, e2, e3, e4], h.step (kept_sk h2) h1, kept_sk h2⟩
theorem unpin_s (x y z E : Int) (h : PSt w0 w b s k P) (e : P.chk x y z = E) : Calls Try.prog 16 #[.pointer (some ⟨b, 0, none⟩), .agg #[.int .i64 x, .int .i64 y, .int .u32 z]] w fun e w' =>
    e = .returned (.int .i64 E) ∧ Hid (PSt w0 w' b s k (P.unpin x y z)) ∧ Hid (Kept (PFoot b s k) w w') := by
  refine (punpin_any b s k P x y z w h.f).mono ?_
  rintro e w' ⟨rfl, h1, h2⟩
  exact ⟨by rw [e], h.step (kept_k h2) h1, kept_k h2⟩
theorem bytes_s (x y z N E : Int) (h : PSt w0 w b s k P) (e1 : P.size x y z = N) (e2 : P.chk x y z = E) : Calls Try.prog 20 #[.pointer (some ⟨b, 0, none⟩), .agg #[.int .i64 x, .int .i64 y, .int .u32 z]] w fun e w' =>
    e = .returned (.tuple #[.int .i64 N, .int .i64 E]) ∧ Hid (PSt w0 w' b s k P) ∧ Hid (Below w.heap.size w w') := by
  refine (pbytes_any b s k P x y z w h.f).mono ?_
  rintro e w' ⟨rfl, h1⟩
  exact ⟨by rw [e1, e2], h.quiet h1, h1⟩
theorem used_s (N : Nat) (h : PSt w0 w b s k P) (e1 : P.used = N) : Calls Try.prog 21 #[.pointer (some ⟨b, 0, none⟩)] w fun e w' =>
    e = .returned (.int .i64 N) ∧ Hid (PSt w0 w' b s k P) ∧ Hid (Below w.heap.size w w') := by
  refine (pused_ok b s k P w h.f).mono ?_
  rintro e w' ⟨rfl, h1⟩
  exact ⟨by rw [e1], h.quiet h1, h1⟩
theorem len_s (N : Nat) (h : PSt w0 w b s k P) (e1 : P.t.held.length = N) : Calls Try.prog 23 #[.pointer (some ⟨b, 0, none⟩)] w fun e w' =>
    e = .returned (.int .i64 N) ∧ Hid (PSt w0 w' b s k P) ∧ Hid (Below w.heap.size w w') := by
  refine (plen_ok b s k P w h.f).mono ?_
  rintro e w' ⟨rfl, h1⟩
  exact ⟨by rw [e1], h.quiet h1, h1⟩
theorem all_s (l : List Ro) (h : PSt w0 w b s k P) (e : P.all = l) : Calls Try.prog 22 #[.pointer (some ⟨b, 0, none⟩)] w fun e w' =>
    ∃ p c, e = .returned (.slice p l.length c) ∧ Hid (RowO w' (.slice p l.length c) l) ∧ Hid (PSt w0 w' b s k P) ∧ Hid (Below w.heap.size w w') := by
  refine (pall_ok b s k P w h.f).mono ?_
  rintro e' w' ⟨p, c, rfl, h1, h2⟩
  subst e
  exact ⟨p, c, rfl, ⟨_, h1⟩, h.quiet h2, h2⟩
end
theorem ob_cells {w : World} {A : Nat} {x y z : Value} (h : Bk w A 34 #[x, y, z]) : w.cell? ⟨A, 0, none⟩ = some x ∧ w.cell? ⟨A, 1, none⟩ = some y ∧ w.cell? ⟨A, 2, none⟩ = some z ∧ A < w.heap.size := ⟨h.cell 0, h.cell 1, h.cell 2, h.lt⟩
end Go.Proofs.Ytjhgckaaaonbiaa
