/- Both worlds at once, or none: each call told. -/
import Derived.Test.YtpinmiplefidpaaGreatDoorQh
import Derived.Test.YtpinmiplefidpaaGreatDoorOx
import Derived.Test.YtpinmiplefidpaaGreatDoorOp
namespace Go.Proofs.YtpinmiplefidpaaGreatDoor
open Go.RowKit

def oaK (s : Option Wd) (k a : Int) : Int := match s with | none => 0 | some W => W.aK k a
def oaI (s : Option Wd) (k a : Int) : Int := match s with | none => 0 | some W => W.aI k a
def oaG (s : Option Wd) (k a : Int) : Int := match s with | none => 0 | some W => W.aG k a
def oaE (s : Option Wd) (k a : Int) : Int := match s with | none => 1 | some W => W.aE k a
def orA (s : Option Wd) (k i g y : Int) : Int := match s with | none => 0 | some W => W.lA k i g y
def orE (s : Option Wd) (k i g y : Int) : Int := match s with | none => 1 | some W => W.lE k i g y
def onE (s : Option Wd) (k i g x : Int) : Int := match s with | none => 1 | some W => W.nE k i g x
def otE (s : Option Wd) (x : Int) : Int := match s with | none => 1 | some W => W.tE x
def osE (s : Option Wd) (bs : List UInt8) : Int := match s with | none => 1 | some W => W.sE bs
def otl (s : Option Wd) (k i g : Int) : Int := match s with | none => 0 | some W => W.til k i g
def ouE (s : Option Wd) (k i g : Int) : Int := match s with | none => 1 | some W => W.uE k i g
def ohs (s : Option Wd) (k i g : Int) : Bool := match s with | none => false | some W => decide (W.Here k i g)
def ont (s : Option Wd) : Int := match s with | none => 0 | some W => W.T
def oal (s : Option Wd) : List Ro := match s with | none => [] | some W => W.all
section
variable {w0 w : World} {pv qv : Value} {s t : Option Wd}
theorem p_acq (k a : Int) (ha : I64 a) (h : PM w0 w pv qv s t) : Calls Tryz.prog 16 #[pv, .int .i64 k, .int .i64 a] w fun e w' => e = .returned (.tuple #[.agg #[.int .i64 (oaK s k a), .int .i64 (oaI s k a), .int .u32 (oaG s k a)], .int .i64 (oaE s k a)]) ∧ Hid (PM w0 w' pv qv (s.map fun W => W.acq k a) t) ∧ Hid (BKeep w w') := by
  cases s with
  | none =>
    obtain rfl := h.nilp
    exact (wacq_no none k a w (.inl rfl)).mono fun _ _ ⟨e, hb⟩ => ⟨e, h.quiet hb, BKeep.below hb⟩
  | some W =>
    obtain ⟨A, rfl, f, st, nk⟩ := h.prog
    exact (wacq_ok A W k a w f ha).mono fun _ _ ⟨e, k1, k2⟩ => ⟨e, st _ _ k1 k2, nk _ k2⟩
theorem d_acq (k a : Int) (_ha : I64 a) (h : PM w0 w pv qv s t) : Calls Tryz.prog 17 #[qv, .int .i64 k, .int .i64 a] w fun e w' => e = .returned (.tuple #[.agg #[.int .i64 (oaK t k a), .int .i64 (oaI t k a), .int .u32 (oaG t k a)], .int .i64 (oaE t k a)]) ∧ Hid (PM w0 w' pv qv s (t.map fun W => W.acq k a)) ∧ Hid (BKeep w w') := by
  cases t with
  | none =>
    obtain rfl := h.nilq
    exact (racq_nil k a w).mono fun _ _ ⟨e, hb⟩ => ⟨e, h.quiet hb, BKeep.below hb⟩
  | some W =>
    obtain ⟨x, rfl, f, st, nk⟩ := h.doc
    exact (racq_ok x W k a _ _ _ _ w f rfl rfl rfl rfl).mono fun _ _ ⟨e, hv⟩ => by
      obtain ⟨y, k1, k2⟩ := hv.out
      exact ⟨e, st _ _ _ k1 k2, nk _ _ k2⟩
theorem p_rel (k i g y : Int) (he : OEnv w0) (hr : RgO k i g) (hy : I64 y) (h : PM w0 w pv qv s t) : Calls Tryz.prog 18 #[pv, .agg #[.int .i64 k, .int .i64 i, .int .u32 g], .int .i64 y] w fun e w' => e = .returned (.tuple #[.int .i64 (orA s k i g y), .int .i64 (orE s k i g y)]) ∧ Hid (PM w0 w' pv qv (s.map fun W => W.rel k i g y) t) ∧ Hid (BKeep w w') := by
  cases s with
  | none =>
    obtain rfl := h.nilp
    exact (wrel_no none k i g y w (.inl rfl)).mono fun _ _ ⟨e, hb⟩ => ⟨e, h.quiet hb, BKeep.below hb⟩
  | some W =>
    obtain ⟨A, rfl, f, st, nk⟩ := h.prog
    exact (wrel_ok A W k i g y w f (he.below h.bel).lg hr hy).mono fun _ _ ⟨e, k1, k2⟩ => ⟨e, st _ _ k1 k2, nk _ k2⟩
theorem d_rel (k i g y : Int) (hr : RgO k i g) (hy : I64 y) (h : PM w0 w pv qv s t) : Calls Tryz.prog 19 #[qv, .agg #[.int .i64 k, .int .i64 i, .int .u32 g], .int .i64 y] w fun e w' => e = .returned (.tuple #[.int .i64 (orA t k i g y), .int .i64 (orE t k i g y)]) ∧ Hid (PM w0 w' pv qv s (t.map fun W => W.rel k i g y)) ∧ Hid (BKeep w w') := by
  cases t with
  | none =>
    obtain rfl := h.nilq
    exact (rrel_nil k i g y w).mono fun _ _ ⟨e, hb⟩ => ⟨e, h.quiet hb, BKeep.below hb⟩
  | some W =>
    obtain ⟨x, rfl, f, st, nk⟩ := h.doc
    exact (rrel_ok x W k i g y w f hr hy).mono fun _ _ ⟨e, hv⟩ => by
      obtain ⟨y, k1, k2⟩ := hv.out
      exact ⟨e, st _ _ _ k1 k2, nk _ _ k2⟩
theorem p_ren (k i g y : Int) (hr : RgO k i g) (h : PM w0 w pv qv s t) : Calls Tryz.prog 20 #[pv, .agg #[.int .i64 k, .int .i64 i, .int .u32 g], .int .i64 y] w fun e w' => e = .returned (.int .i64 (onE s k i g y)) ∧ Hid (PM w0 w' pv qv (s.map fun W => W.ren k i g y) t) ∧ Hid (BKeep w w') := by
  cases s with
  | none =>
    obtain rfl := h.nilp
    exact (wrenew_no none k i g y w (.inl rfl) hr).mono fun _ _ ⟨e, hb⟩ => ⟨e, h.quiet hb, BKeep.below hb⟩
  | some W =>
    obtain ⟨A, rfl, f, st, nk⟩ := h.prog
    exact (wrenew_ok A W k i g y w f hr).mono fun _ _ ⟨e, k1, k2⟩ => ⟨e, st _ _ k1 k2, nk _ k2⟩
theorem d_ren (k i g y : Int) (hr : RgO k i g) (h : PM w0 w pv qv s t) : Calls Tryz.prog 21 #[qv, .agg #[.int .i64 k, .int .i64 i, .int .u32 g], .int .i64 y] w fun e w' => e = .returned (.int .i64 (onE t k i g y)) ∧ Hid (PM w0 w' pv qv s (t.map fun W => W.ren k i g y)) ∧ Hid (BKeep w w') := by
  cases t with
  | none =>
    obtain rfl := h.nilq
    exact (rrenew_nil k i g y w).mono fun _ _ ⟨e, hb⟩ => ⟨e, h.quiet hb, BKeep.below hb⟩
  | some W =>
    obtain ⟨x, rfl, f, st, nk⟩ := h.doc
    exact (rrenew_ok x W k i g y w f hr).mono fun _ _ ⟨e, k1, k2⟩ => ⟨e, st _ _ _ k1 k2, nk _ _ k2⟩
theorem p_tick (y : Int) (_hy : I64 y) (h : PM w0 w pv qv s t) : Calls Tryz.prog 22 #[pv, .int .i64 y] w fun e w' => e = .returned (.int .i64 (otE s y)) ∧ Hid (PM w0 w' pv qv (s.map fun W => W.tick y) t) ∧ Hid (BKeep w w') := by
  cases s with
  | none =>
    obtain rfl := h.nilp
    exact (wtick_no none y w (.inl rfl)).mono fun _ _ ⟨e, hw⟩ => by subst hw; exact ⟨e, h, BKeep.refl _⟩
  | some W =>
    obtain ⟨A, rfl, f, st, nk⟩ := h.prog
    exact (wtick_ok A W y w f).mono fun _ _ ⟨e, k1, k2⟩ => ⟨e, st _ _ k1 k2, nk _ k2⟩
theorem d_tick (y : Int) (hy : I64 y) (h : PM w0 w pv qv s t) : Calls Tryz.prog 23 #[qv, .int .i64 y] w fun e w' => e = .returned (.int .i64 (otE t y)) ∧ Hid (PM w0 w' pv qv s (t.map fun W => W.tick y)) ∧ Hid (BKeep w w') := by
  cases t with
  | none =>
    obtain rfl := h.nilq
    exact (rtick_nil y w).mono fun _ _ ⟨e, hw⟩ => by subst hw; exact ⟨e, h, BKeep.refl _⟩
  | some W =>
    obtain ⟨x, rfl, f, st, nk⟩ := h.doc
    exact (rtick_ok x W y w f hy).mono fun _ _ ⟨e, k1, k2⟩ => ⟨e, st _ _ _ k1 k2, nk _ _ k2⟩
theorem p_ans (b : ByteArray) (he : OEnv w0) (hb : b.size ≤ 140737488351232) (h : PM w0 w pv qv s t) : Calls Tryz.prog 24 #[pv, .string b] w fun e w' => e = .returned (.int .i64 (osE s b.data.toList)) ∧ Hid (PM w0 w' pv qv (s.map fun W => W.said b.data.toList) t) ∧ Hid (BKeep w w') := by
  cases s with
  | none =>
    obtain rfl := h.nilp
    exact (wanswer_no none b w (.inl rfl)).mono fun _ _ ⟨e, hw⟩ => by subst hw; exact ⟨e, h, BKeep.refl _⟩
  | some W =>
    obtain ⟨A, rfl, f, st, nk⟩ := h.prog
    exact (wanswer_ok A W b w (he.below h.bel).an f hb).mono fun _ _ ⟨e, k1, k2⟩ => ⟨e, st _ _ k1 k2, nk _ k2⟩
theorem d_ans (b : ByteArray) (hb : b.size ≤ 140737488351232) (h : PM w0 w pv qv s t) : Calls Tryz.prog 25 #[qv, .string b] w fun e w' => e = .returned (.int .i64 (osE t b.data.toList)) ∧ Hid (PM w0 w' pv qv s (t.map fun W => W.said b.data.toList)) ∧ Hid (BKeep w w') := by
  cases t with
  | none =>
    obtain rfl := h.nilq
    exact (ranswer_nil b w).mono fun _ _ ⟨e, hw⟩ => by subst hw; exact ⟨e, h, BKeep.refl _⟩
  | some W =>
    obtain ⟨x, rfl, f, st, nk⟩ := h.doc
    exact (ranswer_ok x W b w f hb).mono fun _ _ ⟨e, k1, k2⟩ => ⟨e, st _ _ _ k1 k2, nk _ _ k2⟩
theorem p_til (k i g : Int) (hr : RgO k i g) (h : PM w0 w pv qv s t) : Calls Tryz.prog 28 #[pv, .agg #[.int .i64 k, .int .i64 i, .int .u32 g]] w fun e w' => e = .returned (.tuple #[.int .i64 (otl s k i g), .int .i64 (ouE s k i g)]) ∧ Hid (Below w.heap.size w w') := by
  cases s with
  | none =>
    obtain rfl := h.nilp
    exact (wuntil_no none k i g w (.inl rfl)).mono fun _ _ ⟨e, hb⟩ => ⟨e, hb⟩
  | some W =>
    obtain ⟨A, rfl, f, _, _⟩ := h.prog
    exact (wuntil_ok A W k i g w f hr).mono fun _ _ ⟨e, hb⟩ => ⟨e, hb⟩
theorem d_til (k i g : Int) (hr : RgO k i g) (h : PM w0 w pv qv s t) : Calls Tryz.prog 29 #[qv, .agg #[.int .i64 k, .int .i64 i, .int .u32 g]] w fun e w' => e = .returned (.tuple #[.int .i64 (otl t k i g), .int .i64 (ouE t k i g)]) ∧ Hid (Below w.heap.size w w') := by
  cases t with
  | none =>
    obtain rfl := h.nilq
    exact (runtil_nil k i g w).mono fun _ _ ⟨e, hb⟩ => ⟨e, hb⟩
  | some W =>
    obtain ⟨x, rfl, f, _, _⟩ := h.doc
    exact (runtil_ok x W k i g w f hr).mono fun _ _ ⟨e, hb⟩ => ⟨e, hb⟩
theorem p_has (k i g : Int) (h : PM w0 w pv qv s t) : Calls Tryz.prog 30 #[pv, .agg #[.int .i64 k, .int .i64 i, .int .u32 g]] w fun e w' => e = .returned (.bool (ohs s k i g)) ∧ Hid (Below w.heap.size w w') := by
  cases s with
  | none =>
    obtain rfl := h.nilp
    exact (whas_no none k i g w (.inl rfl)).mono fun _ _ ⟨e, hb⟩ => ⟨e, hb⟩
  | some W =>
    obtain ⟨A, rfl, f, _, _⟩ := h.prog
    exact (whas_ok A W k i g _ w f (by simp [ohs])).mono fun _ _ ⟨e, hb⟩ => ⟨e, hb⟩
theorem d_has (k i g : Int) (h : PM w0 w pv qv s t) : Calls Tryz.prog 31 #[qv, .agg #[.int .i64 k, .int .i64 i, .int .u32 g]] w fun e w' => e = .returned (.bool (ohs t k i g)) ∧ Hid (Below w.heap.size w w') := by
  cases t with
  | none =>
    obtain rfl := h.nilq
    exact (rhas_nil k i g w).mono fun _ _ ⟨e, hb⟩ => ⟨e, hb⟩
  | some W =>
    obtain ⟨x, rfl, f, _, _⟩ := h.doc
    exact (rhas_ok x W k i g _ w f (by simp [ohs])).mono fun _ _ ⟨e, hb⟩ => ⟨e, hb⟩
theorem p_now (h : PM w0 w pv qv s t) : Calls Tryz.prog 32 #[pv] w fun e w' => e = .returned (.int .i64 (ont s)) ∧ Hid (Below w.heap.size w w') := by
  cases s with
  | none =>
    obtain rfl := h.nilp
    exact (wnow_no none w (.inl rfl)).mono fun _ _ ⟨e, hw⟩ => by subst hw; exact ⟨e, Below.refl _ _⟩
  | some W =>
    obtain ⟨A, rfl, f, _, _⟩ := h.prog
    exact (wnow_ok A W w f).mono fun _ _ ⟨e, hw⟩ => by subst hw; exact ⟨e, Below.refl _ _⟩
theorem d_now (h : PM w0 w pv qv s t) : Calls Tryz.prog 33 #[qv] w fun e w' => e = .returned (.int .i64 (ont t)) ∧ Hid (Below w.heap.size w w') := by
  cases t with
  | none =>
    obtain rfl := h.nilq
    exact (rnow_nil w).mono fun _ _ ⟨e, hw⟩ => by subst hw; exact ⟨e, Below.refl _ _⟩
  | some W =>
    obtain ⟨x, rfl, f, _, _⟩ := h.doc
    exact (rnow_ok x W w f).mono fun _ _ ⟨e, hw⟩ => by subst hw; exact ⟨e, Below.refl _ _⟩
theorem p_all (h : PM w0 w pv qv s t) : Calls Tryz.prog 35 #[pv] w fun e w' => ∃ p c, e = .returned (.slice p (oal s).length c) ∧ Hid (RdO w' (.slice p (oal s).length c) (oal s)) ∧ Hid (Below w.heap.size w w') := by
  cases s with
  | none =>
    obtain rfl := h.nilp
    exact (wall_no none w (.inl rfl)).mono fun _ _ ⟨e, hw⟩ => by subst hw; exact ⟨none, 0, e, RdO.nil _, Below.refl _ _⟩
  | some W =>
    obtain ⟨A, rfl, f, _, _⟩ := h.prog
    exact (wall_ok A W w f).mono fun _ _ ⟨p, c, e, o, hb⟩ => ⟨p, c, e, RdO.of_own o, hb⟩
theorem d_all (h : PM w0 w pv qv s t) : Calls Tryz.prog 36 #[qv] w fun e w' => ∃ p c, e = .returned (.slice p (oal t).length c) ∧ Hid (RdO w' (.slice p (oal t).length c) (oal t)) ∧ Hid (Below w.heap.size w w') := by
  cases t with
  | none =>
    obtain rfl := h.nilq
    exact (rall_nil w).mono fun _ _ ⟨e, hw⟩ => by subst hw; exact ⟨none, 0, e, RdO.nil _, Below.refl _ _⟩
  | some W =>
    obtain ⟨A, rfl, f, _, _⟩ := h.doc
    exact (rwall_ok A W w f).mono fun _ _ ⟨p, c, e, o, hb⟩ => ⟨p, c, e, RdO.of_own o, hb⟩
theorem p_copy (h : PM w0 w pv qv s t) : Calls Tryz.prog 26 #[pv] w fun e w' => ∃ pv', e = .returned pv' ∧ Hid (PM w0 w' pv' qv s t) ∧ Hid (Below w.heap.size w w') := by
  rcases h.cur with ⟨rfl, rfl, rfl, rfl⟩ | ⟨A, x, W, U, rfl, rfl, rfl, rfl, f, g, l1, l2, l3⟩
  · exact (wcopy_no none w (.inl rfl)).mono fun _ _ ⟨e, hw⟩ => by subst hw; exact ⟨_, e, h, Below.refl _ _⟩
  · refine (wcopy_ok A W w f).mono ?_
    rintro e w' ⟨A', rfl, k⟩
    obtain ⟨g1, g2⟩ := g.below k.bel
    refine ⟨_, rfl, ⟨.inr ⟨A', x, W, U, rfl, rfl, rfl, rfl, k.f, g1, fun z hz => Nat.le_trans h.bel.size (k.lo z hz), fun z hz => l2 z ((g2 z).1 hz), fun z hz hf => ?_⟩, bel2 h.bel k.bel⟩, k.bel⟩
    have := g.foot_lt ((g2 z).1 hz)
    have := k.lo z hf
    omega
theorem d_copy (h : PM w0 w pv qv s t) : Calls Tryz.prog 27 #[qv] w fun e w' => ∃ qv', e = .returned qv' ∧ Hid (PM w0 w' pv qv' s t) ∧ Hid (Below w.heap.size w w') := by
  rcases h.cur with ⟨rfl, rfl, rfl, rfl⟩ | ⟨A, x, W, U, rfl, rfl, rfl, rfl, f, g, l1, l2, l3⟩
  · exact (rcopy_nil w).mono fun _ _ ⟨e, hw⟩ => by subst hw; exact ⟨_, e, h, Below.refl _ _⟩
  · refine (rwcopy_ok x U w g).mono ?_
    rintro e w' ⟨y, rfl, k⟩
    obtain ⟨f1, f2⟩ := f.below k.bel
    refine ⟨_, rfl, ⟨.inr ⟨A, y, W, U, rfl, rfl, rfl, rfl, f1, k.f, fun z hz => l1 z ((f2 z).1 hz), fun z hz => Nat.le_trans h.bel.size (k.lo z hz), fun z hz hf => ?_⟩, bel2 h.bel k.bel⟩, k.bel⟩
    have := f.foot_lt ((f2 z).1 hf)
    have := k.lo z hz
    omega
end
/-- A new pair. -/
theorem PM.new {w w1 w2 : World} {A : Ad} {x : Rx} {W : Wd} (h : WSt w w1 A W) (k : RSt w1 w2 x W) : PM w w2 (ptr A.b) (ptr x.r) (some W) (some W) := by
  obtain ⟨f1, f2⟩ := h.f.below k.bel
  refine ⟨.inr ⟨A, x, W, W, rfl, rfl, rfl, rfl, f1, k.f, fun z hz => h.lo z ((f2 z).1 hz), fun z hz => Nat.le_trans h.bel.size (k.lo z hz), fun z hz hf => ?_⟩, bel2 h.bel k.bel⟩
  have := h.f.foot_lt ((f2 z).1 hf)
  have := k.lo z hz
  omega
theorem PM.none {w w2 : World} (h : Below w.heap.size w w2) : PM w w2 (.pointer none) (.pointer none) none none := ⟨.inl ⟨rfl, rfl, rfl, rfl⟩, h⟩
end Go.Proofs.YtpinmiplefidpaaGreatDoor
