/- Both desks beside an older pair: each call over them; a desk may be nil. -/
import Derived.Test.YtfemfgpciogbeaaZh
namespace Go.Proofs.Ytfemfgpciogbeaa
open Go.RowKit

/-- The program's desk and the document's, or none, in blocks F. -/
def Pr (w0 w : World) (pv qv : Value) (s t : Option Dk) (F : Nat → Prop) : Prop :=
  (s = none ∧ t = none ∧ pv = .pointer none ∧ qv = .pointer none ∧ ∀ z, ¬ F z) ∨
  ∃ b k a q c d g D E, s = some D ∧ t = some E ∧ pv = .pointer (some ⟨b, 0, none⟩) ∧ qv = .pointer (some ⟨q, 0, none⟩) ∧ DkW w b k a D ∧ QW w q c d g E ∧ (∀ z, F z ↔ DFoot b k a z ∨ QFt q c d g z) ∧ ∀ z, F z → w0.heap.size ≤ z
section
variable {w0 w w' : World} {pv qv : Value} {s t : Option Dk} {F S : Nat → Prop}
theorem far_pq {b k a q c d g : Nat} {D E : Dk} (f : DkW w b k a D) (h : QW w q c d g E) : ∀ z, QFt q c d g z → ¬ DFoot b k a z := by
  rintro z (rfl | rfl | rfl | rfl)
  · obtain ⟨_, hb⟩ := h.qb; exact f.off hb (by decide) (by decide) (by decide)
  · obtain ⟨_, hb⟩ := h.tab.cb; exact f.off hb (by decide) (by decide) (by decide)
  · obtain ⟨_, hb⟩ := h.tab.db; exact f.off hb (by decide) (by decide) (by decide)
  · obtain ⟨_, hb⟩ := h.gb; exact f.off hb (by decide) (by decide) (by decide)
theorem Pr.lo (h : Pr w0 w pv qv s t F) : ∀ z, F z → w0.heap.size ≤ z := by
  rcases h with ⟨_, _, _, _, h⟩ | ⟨_, _, _, _, _, _, _, _, _, _, _, _, _, _, _, _, h⟩
  · exact fun z hz => absurd hz (h z)
  · exact h
theorem Pr.lt (h : Pr w0 w pv qv s t F) : ∀ z, F z → z < w.heap.size := by
  rcases h with ⟨_, _, _, _, h⟩ | ⟨_, _, _, _, _, _, _, _, _, _, _, _, _, h1, h2, h3, _⟩
  · exact fun z hz => absurd hz (h z)
  · intro z hz
    rcases (h3 z).1 hz with h | h
    · exact h1.foot_lt h
    · exact h2.foot_lt h
theorem Pr.kept (h : Pr w0 w pv qv s t F) (k : Kept S w w') (hF : ∀ z, F z → ¬ S z) : Pr w0 w' pv qv s t F := by
  rcases h with h | ⟨b, k1, a, q, c, d, g, D, E, e1, e2, e3, e4, h1, h2, h3, h4⟩
  · exact .inl h
  · exact .inr ⟨b, k1, a, q, c, d, g, D, E, e1, e2, e3, e4, h1.kept k (fun z hz => hF z ((h3 z).2 (.inl hz))), h2.kept k (fun z hz => hF z ((h3 z).2 (.inr hz))), h3, h4⟩
theorem Pr.below (h : Pr w0 w pv qv s t F) (k : Below w.heap.size w w') : Pr w0 w' pv qv s t F := by
  rcases h with h | ⟨b, k1, a, q, c, d, g, D, E, e1, e2, e3, e4, h1, h2, h3, h4⟩
  · exact .inl h
  · exact .inr ⟨b, k1, a, q, c, d, g, D, E, e1, e2, e3, e4, h1.below k, h2.below k, h3, h4⟩
theorem Pr.box {A : Nat} {ty : TypeId} {cs : Array Value} (h : Pr w0 w pv qv s t F) (hA : Bk w A ty cs) (h1 : ty ≠ 54) (h2 : ty ≠ 105) (h3 : ty ≠ 78) (h4 : ty ≠ 83) (h5 : ty ≠ 108) (h6 : ty ≠ 110) (h7 : ty ≠ 2) : ¬ F A := by
  rcases h with ⟨_, _, _, _, h⟩ | ⟨_, _, _, _, _, _, _, _, _, _, _, _, _, k1, k2, k3, _⟩
  · exact h A
  · intro hz
    rcases (k3 A).1 hz with h | h
    · exact k1.off hA h1 h2 h3 h
    · exact k2.off hA h4 h5 h6 h7 h
end
/-- The pair, an older pair, a step's box. -/
structure Im (w0 w : World) (pv qv : Value) (s t : Option Dk) (F : Nat → Prop) (u v : Value) (o : Option Dk) (G : Nat → Prop) (X : Nat) (cX : Array Value) : Prop where
  cur : Pr w0 w pv qv s t F
  old : Pr w0 w u v o o G
  apart : ∀ z, F z → ¬ G z
  bel : Below w0.heap.size w0 w
  bX : Bk w X 35 cX
section
variable {w0 w w' : World} {pv qv u v : Value} {s t o : Option Dk} {F G S : Nat → Prop} {X : Nat} {cX : Array Value}
theorem Im.quiet (h : Im w0 w pv qv s t F u v o G X cX) (k : Below w.heap.size w w') : Im w0 w' pv qv s t F u v o G X cX :=
  ⟨h.cur.below k, h.old.below k, h.apart, bel2 h.bel k, h.bX.below k⟩
theorem Im.step {s' t' : Option Dk} (h : Im w0 w pv qv s t F u v o G X cX) (k : Kept F w w') (p : Pr w0 w' pv qv s' t' F) : Im w0 w' pv qv s' t' F u v o G X cX :=
  ⟨p, h.old.kept k (fun z hz hf => h.apart z hf hz), h.apart, h.bel.trans (k.below h.bel.size h.cur.lo), h.bX.kept k (h.cur.box h.bX (by decide) (by decide) (by decide) (by decide) (by decide) (by decide) (by decide))⟩
theorem Im.nilp (h : Im w0 w pv qv none t F u v o G X cX) : pv = .pointer none ∧ qv = .pointer none := by
  rcases h.cur with ⟨_, _, h1, h2, _⟩ | ⟨_, _, _, _, _, _, _, _, _, e, _⟩
  · exact ⟨h1, h2⟩
  · cases e
theorem Im.nilq (h : Im w0 w pv qv s none F u v o G X cX) : pv = .pointer none ∧ qv = .pointer none := by
  rcases h.cur with ⟨_, _, h1, h2, _⟩ | ⟨_, _, _, _, _, _, _, _, _, _, e, _⟩
  · exact ⟨h1, h2⟩
  · cases e
theorem Im.prog {D : Dk} (h : Im w0 w pv qv (some D) t F u v o G X cX) : ∃ b k a, pv = .pointer (some ⟨b, 0, none⟩) ∧ DkW w b k a D ∧ (∀ w' D', DkW w' b k a D' → Kept (DFoot b k a) w w' → Im w0 w' pv qv (some D') t F u v o G X cX) ∧ ∀ A cs, Bk w A 33 cs → ¬ DFoot b k a A := by
  rcases h.cur with ⟨e, _⟩ | ⟨b, k, a, q, c, d, g, D2, E, e1, e2, e3, e4, h1, h2, h3, h4⟩
  · cases e
  · injection e1 with e1
    subst e1
    refine ⟨b, k, a, e3, h1, fun w' D' hD hk => h.step (hk.mono fun _ _ hz => (h3 _).2 (.inl hz)) (.inr ⟨b, k, a, q, c, d, g, D', E, rfl, e2, e3, e4, hD, h2.kept hk (far_pq h1 h2), h3, h4⟩), fun A cs hA => h1.off hA (by decide) (by decide) (by decide)⟩
theorem Im.doc {E : Dk} (h : Im w0 w pv qv s (some E) F u v o G X cX) : ∃ q c d g, qv = .pointer (some ⟨q, 0, none⟩) ∧ QW w q c d g E ∧ (∀ w' E', QW w' q c d g E' → Kept (QFt q c d g) w w' → Im w0 w' pv qv s (some E') F u v o G X cX) ∧ ∀ A cs, Bk w A 33 cs → ¬ QFt q c d g A := by
  rcases h.cur with ⟨_, e, _⟩ | ⟨b, k, a, q, c, d, g, D2, E2, e1, e2, e3, e4, h1, h2, h3, h4⟩
  · cases e
  · injection e2 with e2
    subst e2
    refine ⟨q, c, d, g, e4, h2, fun w' E' hE hk => h.step (hk.mono fun _ _ hz => (h3 _).2 (.inr hz)) (.inr ⟨b, k, a, q, c, d, g, D2, E', e1, rfl, e3, e4, h1.kept hk (fun z hz hq => far_pq h1 h2 z hq hz), hE, h3, h4⟩), fun A cs hA => h2.off hA⟩
end
theorem grant2 (x now : Int) (s : Option Dk) : ∃ (K I N E : Int) (s' : Option Dk), (∀ (w0 w : World) (pv qv : Value) (F : Nat → Prop) (u v : Value) (o : Option Dk) (G : Nat → Prop) (X : Nat) (cX : Array Value), Im w0 w pv qv s s F u v o G X cX → Calls Try.prog 13 #[pv, .int .i64 x, .int .i64 now] w fun e w' => e = .returned (.tuple #[.agg #[.int .i64 K, .int .i64 I, .int .u32 N], .int .i64 E]) ∧ Hid (Im w0 w' pv qv s' s F u v o G X cX) ∧ Hid (∀ A cs, Bk w A 33 cs → Bk w' A 33 cs)) ∧
    ∀ (w0 w : World) (pv qv : Value) (F : Nat → Prop) (u v : Value) (o : Option Dk) (G : Nat → Prop) (X : Nat) (cX : Array Value), Im w0 w pv qv s' s F u v o G X cX → Calls Try.prog 14 #[qv, .int .i64 x, .int .i64 now] w fun e w' => e = .returned (.tuple #[.agg #[.int .i64 K, .int .i64 I, .int .u32 N], .int .i64 E]) ∧ Hid (Im w0 w' pv qv s' s' F u v o G X cX) ∧ Hid (∀ A cs, Bk w A 33 cs → Bk w' A 33 cs) := by
  cases s with
  | none =>
    refine ⟨0, 0, 0, 1, none, fun w0 w pv qv F u v o G X cX h => ?_, fun w0 w pv qv F u v o G X cX h => ?_⟩
    · obtain ⟨rfl, rfl⟩ := h.nilp
      exact (dgrant_inv none x now w (.inl rfl)).mono fun _ _ ⟨e, hb⟩ => ⟨e, h.quiet hb, fun A cs hA => hA.below hb⟩
    · obtain ⟨rfl, rfl⟩ := h.nilp
      exact (egrant_nil x now w).mono fun _ _ ⟨e, hb⟩ => ⟨e, h.quiet hb, fun A cs hA => hA.below hb⟩
  | some Dd =>
    refine ⟨Dd.gK x now, Dd.gI x now, Dd.gG x now, Dd.gE x now, some (Dd.grant x now), fun w0 w pv qv F u v o G X cX h => ?_, fun w0 w pv qv F u v o G X cX h => ?_⟩
    · obtain ⟨b, k, a, rfl, h1, h2, h3⟩ := h.prog
      exact (dgrant_ok b k a Dd x now w h1).mono fun _ _ ⟨e, k1, k2⟩ => ⟨e, h2 _ _ k1 k2, fun A cs hA => hA.kept k2 (h3 A cs hA)⟩
    · obtain ⟨q, c, d, g, rfl, h1, h2, h3⟩ := h.doc
      exact (egrant_ok q c d g Dd x now w h1).mono fun _ _ ⟨e, k1, k2⟩ => ⟨e, h2 _ _ k1 k2, fun A cs hA => hA.kept k2 (h3 A cs hA)⟩
theorem renew2 (x y z t now : Int) (hr : RgO x y z) (s : Option Dk) : ∃ (E : Int) (s' : Option Dk), (∀ (w0 w : World) (pv qv : Value) (F : Nat → Prop) (u v : Value) (o : Option Dk) (G : Nat → Prop) (X : Nat) (cX : Array Value), Im w0 w pv qv s s F u v o G X cX → Calls Try.prog 15 #[pv, .agg #[.int .i64 x, .int .i64 y, .int .u32 z], .int .i64 t, .int .i64 now] w fun e w' => e = .returned (.int .i64 E) ∧ Hid (Im w0 w' pv qv s' s F u v o G X cX) ∧ Hid (∀ A cs, Bk w A 33 cs → Bk w' A 33 cs)) ∧
    ∀ (w0 w : World) (pv qv : Value) (F : Nat → Prop) (u v : Value) (o : Option Dk) (G : Nat → Prop) (X : Nat) (cX : Array Value), Im w0 w pv qv s' s F u v o G X cX → Calls Try.prog 16 #[qv, .agg #[.int .i64 x, .int .i64 y, .int .u32 z], .int .i64 t, .int .i64 now] w fun e w' => e = .returned (.int .i64 E) ∧ Hid (Im w0 w' pv qv s' s' F u v o G X cX) ∧ Hid (∀ A cs, Bk w A 33 cs → Bk w' A 33 cs) := by
  cases s with
  | none =>
    refine ⟨1, none, fun w0 w pv qv F u v o G X cX h => ?_, fun w0 w pv qv F u v o G X cX h => ?_⟩
    · obtain ⟨rfl, rfl⟩ := h.nilp
      exact (drenew_inv none x y z t now w (.inl rfl)).mono fun _ _ ⟨e, hb⟩ => ⟨e, h.quiet hb, fun A cs hA => hA.below hb⟩
    · obtain ⟨rfl, rfl⟩ := h.nilp
      exact (erenew_nil x y z t now w).mono fun _ _ ⟨e, hb⟩ => ⟨e, h.quiet hb, fun A cs hA => hA.below hb⟩
  | some Dd =>
    refine ⟨Dd.rE x y z t now, some (Dd.renew x y z t now), fun w0 w pv qv F u v o G X cX h => ?_, fun w0 w pv qv F u v o G X cX h => ?_⟩
    · obtain ⟨b, k, a, rfl, h1, h2, h3⟩ := h.prog
      exact (drenew_ok b k a Dd x y z t now hr w h1).mono fun _ _ ⟨e, k1, k2⟩ => ⟨e, h2 _ _ k1 k2, fun A cs hA => hA.kept k2 (h3 A cs hA)⟩
    · obtain ⟨q, c, d, g, rfl, h1, h2, h3⟩ := h.doc
      exact (erenew_ok q c d g Dd x y z t now hr w h1).mono fun _ _ ⟨e, k1, k2⟩ => ⟨e, h2 _ _ k1.out k2.out, fun A cs hA => hA.kept k2.out (h3 A cs hA)⟩
theorem ret2 (x y z : Int) (hr : RgO x y z) (s : Option Dk) : ∃ (E : Int) (s' : Option Dk), (∀ (w0 w : World) (pv qv : Value) (F : Nat → Prop) (u v : Value) (o : Option Dk) (G : Nat → Prop) (X : Nat) (cX : Array Value), Im w0 w pv qv s s F u v o G X cX → Calls Try.prog 17 #[pv, .agg #[.int .i64 x, .int .i64 y, .int .u32 z]] w fun e w' => e = .returned (.int .i64 E) ∧ Hid (Im w0 w' pv qv s' s F u v o G X cX) ∧ Hid (∀ A cs, Bk w A 33 cs → Bk w' A 33 cs)) ∧
    ∀ (w0 w : World) (pv qv : Value) (F : Nat → Prop) (u v : Value) (o : Option Dk) (G : Nat → Prop) (X : Nat) (cX : Array Value), Im w0 w pv qv s' s F u v o G X cX → Calls Try.prog 18 #[qv, .agg #[.int .i64 x, .int .i64 y, .int .u32 z]] w fun e w' => e = .returned (.int .i64 E) ∧ Hid (Im w0 w' pv qv s' s' F u v o G X cX) ∧ Hid (∀ A cs, Bk w A 33 cs → Bk w' A 33 cs) := by
  cases s with
  | none =>
    refine ⟨1, none, fun w0 w pv qv F u v o G X cX h => ?_, fun w0 w pv qv F u v o G X cX h => ?_⟩
    · obtain ⟨rfl, rfl⟩ := h.nilp
      exact (dret_inv none x y z w (.inl rfl)).mono fun _ _ ⟨e, hb⟩ => ⟨e, h.quiet hb, fun A cs hA => hA.below hb⟩
    · obtain ⟨rfl, rfl⟩ := h.nilp
      exact (eret_nil x y z w).mono fun _ _ ⟨e, hb⟩ => ⟨e, h.quiet hb, fun A cs hA => hA.below hb⟩
  | some Dd =>
    refine ⟨Dd.chk x y z, some (Dd.ret x y z), fun w0 w pv qv F u v o G X cX h => ?_, fun w0 w pv qv F u v o G X cX h => ?_⟩
    · obtain ⟨b, k, a, rfl, h1, h2, h3⟩ := h.prog
      exact (dret_ok b k a Dd x y z hr w h1).mono fun _ _ ⟨e, k1, k2⟩ => ⟨e, h2 _ _ k1 k2, fun A cs hA => hA.kept k2 (h3 A cs hA)⟩
    · obtain ⟨q, c, d, g, rfl, h1, h2, h3⟩ := h.doc
      exact (eret_ok q c d g Dd x y z hr w h1).mono fun _ _ ⟨e, k1, k2⟩ => ⟨e, h2 _ _ k1.out k2.out, fun A cs hA => hA.kept k2.out (h3 A cs hA)⟩
theorem until2 (x y z : Int) (hr : RgO x y z) (s : Option Dk) : ∃ (N E : Int), (∀ (w0 w : World) (pv qv : Value) (F : Nat → Prop) (u v : Value) (o : Option Dk) (G : Nat → Prop) (X : Nat) (cX : Array Value), Im w0 w pv qv s s F u v o G X cX → Calls Try.prog 19 #[pv, .agg #[.int .i64 x, .int .i64 y, .int .u32 z]] w fun e w' => e = .returned (.tuple #[.int .i64 N, .int .i64 E]) ∧ Hid (Im w0 w' pv qv s s F u v o G X cX) ∧ Hid (∀ A cs, Bk w A 33 cs → Bk w' A 33 cs)) ∧
    ∀ (w0 w : World) (pv qv : Value) (F : Nat → Prop) (u v : Value) (o : Option Dk) (G : Nat → Prop) (X : Nat) (cX : Array Value), Im w0 w pv qv s s F u v o G X cX → Calls Try.prog 20 #[qv, .agg #[.int .i64 x, .int .i64 y, .int .u32 z]] w fun e w' => e = .returned (.tuple #[.int .i64 N, .int .i64 E]) ∧ Hid (Im w0 w' pv qv s s F u v o G X cX) ∧ Hid (∀ A cs, Bk w A 33 cs → Bk w' A 33 cs) := by
  cases s with
  | none =>
    refine ⟨0, 1, fun w0 w pv qv F u v o G X cX h => ?_, fun w0 w pv qv F u v o G X cX h => ?_⟩
    · obtain ⟨rfl, rfl⟩ := h.nilp
      exact (duntil_inv none x y z w (.inl rfl)).mono fun _ _ ⟨e, hb⟩ => ⟨e, h.quiet hb, fun A cs hA => hA.below hb⟩
    · obtain ⟨rfl, rfl⟩ := h.nilp
      exact (euntil_nil x y z w).mono fun _ _ ⟨e, hb⟩ => ⟨e, h.quiet hb, fun A cs hA => hA.below hb⟩
  | some Dd =>
    refine ⟨Dd.til x y z, Dd.chk x y z, fun w0 w pv qv F u v o G X cX h => ?_, fun w0 w pv qv F u v o G X cX h => ?_⟩
    · obtain ⟨b, k, a, rfl, h1, h2, h3⟩ := h.prog
      exact (duntil_ok b k a Dd x y z hr w h1).mono fun _ _ ⟨e, hb⟩ => ⟨e, h.quiet hb, fun A cs hA => hA.below hb⟩
    · obtain ⟨q, c, d, g, rfl, h1, h2, h3⟩ := h.doc
      exact (euntil_ok q c d g Dd x y z hr w h1).mono fun _ _ ⟨e, hb⟩ => ⟨e, h.quiet hb, fun A cs hA => hA.below hb⟩
theorem over2 (x y z now : Int) (hr : RgO x y z) (s : Option Dk) : ∃ (ov : Bool) (E : Int), (∀ (w0 w : World) (pv qv : Value) (F : Nat → Prop) (u v : Value) (o : Option Dk) (G : Nat → Prop) (X : Nat) (cX : Array Value), Im w0 w pv qv s s F u v o G X cX → Calls Try.prog 21 #[pv, .agg #[.int .i64 x, .int .i64 y, .int .u32 z], .int .i64 now] w fun e w' => e = .returned (.tuple #[.bool ov, .int .i64 E]) ∧ Hid (Im w0 w' pv qv s s F u v o G X cX) ∧ Hid (∀ A cs, Bk w A 33 cs → Bk w' A 33 cs)) ∧
    ∀ (w0 w : World) (pv qv : Value) (F : Nat → Prop) (u v : Value) (o : Option Dk) (G : Nat → Prop) (X : Nat) (cX : Array Value), Im w0 w pv qv s s F u v o G X cX → Calls Try.prog 22 #[qv, .agg #[.int .i64 x, .int .i64 y, .int .u32 z], .int .i64 now] w fun e w' => e = .returned (.tuple #[.bool ov, .int .i64 E]) ∧ Hid (Im w0 w' pv qv s s F u v o G X cX) ∧ Hid (∀ A cs, Bk w A 33 cs → Bk w' A 33 cs) := by
  cases s with
  | none =>
    refine ⟨false, 1, fun w0 w pv qv F u v o G X cX h => ?_, fun w0 w pv qv F u v o G X cX h => ?_⟩
    · obtain ⟨rfl, rfl⟩ := h.nilp
      exact (dover_inv none x y z now w (.inl rfl)).mono fun _ _ ⟨e, hb⟩ => ⟨e, h.quiet hb, fun A cs hA => hA.below hb⟩
    · obtain ⟨rfl, rfl⟩ := h.nilp
      exact (eover_nil x y z now w).mono fun _ _ ⟨e, hb⟩ => ⟨e, h.quiet hb, fun A cs hA => hA.below hb⟩
  | some Dd =>
    refine ⟨Dd.ovr x y z now, Dd.oE x y z now, fun w0 w pv qv F u v o G X cX h => ?_, fun w0 w pv qv F u v o G X cX h => ?_⟩
    · obtain ⟨b, k, a, rfl, h1, h2, h3⟩ := h.prog
      exact (dover_ok b k a Dd x y z now hr w h1).mono fun _ _ ⟨e, hb⟩ => ⟨e, h.quiet hb, fun A cs hA => hA.below hb⟩
    · obtain ⟨q, c, d, g, rfl, h1, h2, h3⟩ := h.doc
      exact (eover_ok q c d g Dd x y z now hr w h1).mono fun _ _ ⟨e, hb⟩ => ⟨e, h.quiet hb, fun A cs hA => hA.below hb⟩
end Go.Proofs.Ytfemfgpciogbeaa
