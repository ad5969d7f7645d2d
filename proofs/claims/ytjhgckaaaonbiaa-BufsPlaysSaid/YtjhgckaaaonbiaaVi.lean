/- Both pools beside an older pair, with what was given and the boxes of a step; each call over them. -/
import Derived.Test.YtjhgckaaaonbiaaVs
import Derived.Test.YtjhgckaaaonbiaaVh
namespace Go.Proofs.Ytjhgckaaaonbiaa
open Go.RowKit

def QFoot (b s k c g : Nat) : Prop := PFoot b s k g ∨ g = c
def Old (w0 w : World) (S : Nat → Prop) (u v : Value) : Prop := u = .pointer none ∨ ∃ b s k c d P, u = .pointer (some ⟨b, 0, none⟩) ∧ v = .pointer (some ⟨c, 0, none⟩) ∧ PS w0 w b s k c d P ∧ ∀ g, TFoot b s k c d g → ¬ S g
theorem PS.kept {w0 w w' : World} {b s k c d : Nat} {P : Po} {T : Nat → Prop} (h1 : PS w0 w b s k c d P) (q : Kept T w w') (h2 : ∀ g, TFoot b s k c d g → ¬ T g) (lo : ∀ g, T g → w0.heap.size ≤ g) : PS w0 w' b s k c d P :=
  ⟨⟨h1.st.f.kept q fun g hg hs => h2 g (.inl hg) hs, h1.st.bel.trans (q.below h1.st.bel.size lo), h1.st.lo⟩, h1.dw.kept q (h2 c (.inr (.inl rfl))) (h2 d (.inr (.inr rfl))), h1.lc, h1.ld⟩
theorem Old.kept {w0 w w' : World} {S T : Nat → Prop} {u v : Value} (h : Old w0 w S u v) (q : Kept T w w') (hT : ∀ g, T g → S g) (lo : ∀ g, T g → w0.heap.size ≤ g) : Old w0 w' S u v := by
  rcases h with h | ⟨b, s, k, c, d, F, e1, e2, h1, h2⟩
  · exact .inl h
  · exact .inr ⟨b, s, k, c, d, F, e1, e2, h1.kept q (fun g hg hs => h2 g hg (hT g hs)) lo, h2⟩
theorem Old.below {w0 w w' : World} {S : Nat → Prop} {u v : Value} (h : Old w0 w S u v) (q : Below w.heap.size w w') : Old w0 w' S u v := by
  rcases h with h | ⟨b, s, k, c, d, F, e1, e2, h1, h2⟩
  · exact .inl h
  · exact .inr ⟨b, s, k, c, d, F, e1, e2, h1.quiet q, h2⟩
/-- .. and where blocks of resources are written. -/
theorem Old.beside {w0 w w' : World} {S T : Nat → Prop} {u v : Value} (h : Old w0 w S u v) (hA : ∀ g, T g → ∃ cs, Bk w g 34 cs) (q : Kept T w w') (lo : ∀ g, T g → w0.heap.size ≤ g) : Old w0 w' S u v := by
  rcases h with h | ⟨b, s, k, c, d, F, e1, e2, h1, h2⟩
  · exact .inl h
  · exact .inr ⟨b, s, k, c, d, F, e1, e2, h1.kept q (fun g hg hs => by obtain ⟨cs, hb⟩ := hA g hs; exact PS.box h1.st.f h1.dw hb (by decide) (by decide) (by decide) (by decide) (by decide) hg) lo, h2⟩
structure Im (w0 w : World) (b s k c : Nat) (F G : Po) (u v : Value) (p : Option Addr) (q cg X C : Nat) (cX cC : Array Value) : Prop where
  st : PSt w0 w b s k F
  dw : ∃ d, DW w c d G ∧ w0.heap.size ≤ d
  lc : w0.heap.size ≤ c
  old : Old w0 w (QFoot b s k c) u v
  row : ∃ L : List Ro, L.length = q ∧ w.ownsRow w0.heap.size 34 3 (.slice p q cg) q (ocls L)
  bX : Bk w X 36 cX
  bC : Bk w C 34 cC
section
variable {w0 w w' : World} {b s k c X C : Nat} {F G F' : Po} {u v : Value} {p p2 : Option Addr} {q cg q2 cg2 : Nat} {cX cC cC' : Array Value}
theorem Im.quiet (h : Im w0 w b s k c F G u v p q cg X C cX cC) (d : Below w.heap.size w w') : Im w0 w' b s k c F G u v p q cg X C cX cC := by
  obtain ⟨e, h1, h2⟩ := h.dw
  obtain ⟨L, h3, h4⟩ := h.row
  exact ⟨h.st.quiet d, ⟨e, h1.below d, h2⟩, h.lc, h.old.below d, ⟨L, h3, own_below h4 d⟩, h.bX.below d, h.bC.below d⟩
theorem Im.bel (h : Im w0 w b s k c F G u v p q cg X C cX cC) : Below w0.heap.size w0 w := h.st.bel
theorem Im.pr (h : Im w0 w b s k c F G u v p q cg X C cX cC) (d : Kept (PFoot b s k) w w') (f : PSt w0 w' b s k F') : Im w0 w' b s k c F' G u v p q cg X C cX cC := by
  obtain ⟨e, h1, h2⟩ := h.dw
  obtain ⟨L, h3, h4⟩ := h.row
  exact ⟨f, ⟨e, h1.kept d (h.st.f.no_c h1) (h.st.f.no_d h1), h2⟩, h.lc, h.old.kept d (fun _ hg => .inl hg) h.st.lo, ⟨L, h3, row_kept h4 d fun g hg => by obtain ⟨_, _, hb⟩ := row_any h4 hg; exact h.st.f.box hb (by decide) (by decide) (by decide)⟩,
    h.bX.kept d (h.st.f.box h.bX (by decide) (by decide) (by decide)), h.bC.kept d (h.st.f.box h.bC (by decide) (by decide) (by decide))⟩
theorem DW.noc {d A : Nat} {t : TypeId} {cs : Array Value} (h : DW w c d G) (hA : Bk w A t cs) (h4 : t ≠ 76) : A ≠ c := by
  rintro rfl
  obtain ⟨cs', hc⟩ := h.cbk
  exact h4 (hA.uniq hc).1
theorem Im.doc {d : Nat} (h : Im w0 w b s k c F G u v p q cg X C cX cC) (hd : DW w c d G) (hl : w0.heap.size ≤ d) (f : DSetQ c d F' w w') : Im w0 w' b s k c F F' u v p q cg X C cX cC := by
  obtain ⟨L, h3, h4⟩ := h.row
  obtain ⟨d', g1, g2, g3⟩ := f
  have lo : ∀ g, g = c → w0.heap.size ≤ g := fun _ e => by rw [e]; exact h.lc
  have hs := h.st.bel.size
  exact ⟨⟨h.st.f.kept g3 fun g hg e => h.st.f.no_c hd (by subst e; exact hg), h.st.bel.trans (g3.below hs lo), h.st.lo⟩, ⟨d', g2, by omega⟩, h.lc, h.old.kept g3 (fun _ e => .inr e) lo,
    ⟨L, h3, row_kept h4 g3 fun g hg e => by obtain ⟨_, _, hb⟩ := row_any h4 hg; exact hd.noc hb (by decide) e⟩, h.bX.kept g3 (hd.noc h.bX (by decide)), h.bC.kept g3 (hd.noc h.bC (by decide))⟩
/-- A block of resources, other than the box, is written: the row grows, or the box is stored into. -/
theorem Im.row2 (h : Im w0 w b s k c F G u v p q cg X C cX cC) (d : Kept (fun g => (Value.slice p q cg).ownBlock = some g) w w') (hC : ∀ g, (Value.slice p q cg).ownBlock = some g → g ≠ C) (hr : ∃ L : List Ro, L.length = q2 ∧ w'.ownsRow w0.heap.size 34 3 (.slice p2 q2 cg2) q2 (ocls L)) : Im w0 w' b s k c F G u v p2 q2 cg2 X C cX cC := by
  obtain ⟨e, h1, h2⟩ := h.dw
  obtain ⟨L, h3, h4⟩ := h.row
  have hb : ∀ g, (Value.slice p q cg).ownBlock = some g → w0.heap.size ≤ g ∧ ∃ cs, Bk w g 34 cs := fun g hg => row_any h4 hg
  have lo : ∀ g, (Value.slice p q cg).ownBlock = some g → w0.heap.size ≤ g := fun g hg => (hb g hg).1
  exact ⟨⟨h.st.f.kept d fun g hg e => by obtain ⟨_, _, h5⟩ := hb g e; exact h.st.f.box h5 (by decide) (by decide) (by decide) hg, h.st.bel.trans (d.below h.st.bel.size lo), h.st.lo⟩,
    ⟨e, h1.kept d (fun e => by obtain ⟨_, _, h5⟩ := hb _ e; exact h1.noc h5 (by decide) rfl) (fun e => by obtain ⟨_, _, h5⟩ := hb _ e; obtain ⟨_, h6⟩ := h1.dbk; exact absurd (h5.uniq h6).1 (by decide)), h2⟩, h.lc,
    h.old.beside (fun g hg => (hb g hg).2) d lo, hr, h.bX.kept d (fun e => by obtain ⟨_, _, h5⟩ := hb _ e; exact absurd (h5.uniq h.bX).1 (by decide)), h.bC.kept d (fun e => hC _ e rfl)⟩
theorem Im.store (h : Im w0 w b s k c F G u v p q cg X C cX cC) (hC : ∀ g, (Value.slice p q cg).ownBlock = some g → g ≠ C) (hl : w0.heap.size ≤ C) (i : Nat) (z : Value) : Im w0 (w.setCell ⟨C, i, none⟩ z) b s k c F G u v p q cg X C cX (cC.setIfInBounds i z) := by
  have d : Kept (· = C) w (w.setCell ⟨C, i, none⟩ z) := (Kept.refl _ w).put1 i z
  obtain ⟨e, h1, h2⟩ := h.dw
  obtain ⟨L, h3, h4⟩ := h.row
  have lo : ∀ g, g = C → w0.heap.size ≤ g := fun _ e => by rw [e]; exact hl
  exact ⟨⟨h.st.f.kept d fun g hg e => by subst e; exact h.st.f.box h.bC (by decide) (by decide) (by decide) hg, h.st.bel.trans (d.below h.st.bel.size lo), h.st.lo⟩,
    ⟨e, h1.kept d (fun e => h1.noc h.bC (by decide) e.symm) (fun e => by obtain ⟨_, h6⟩ := h1.dbk; subst e; exact absurd (h.bC.uniq h6).1 (by decide)), h2⟩, h.lc,
    h.old.beside (fun g hg => by subst hg; exact ⟨_, h.bC⟩) d lo, ⟨L, h3, row_kept h4 d fun g hg e => hC g hg e⟩, h.bX.kept d (fun e => by subst e; exact absurd (h.bX.uniq h.bC).1 (by decide)), h.bC.put i z⟩
theorem im_unpin (x y z : Int) (h : Im w0 w b s k c F G u v p q cg X C cX cC) : Calls Try.prog 16 #[.pointer (some ⟨b, 0, none⟩), .agg #[.int .i64 x, .int .i64 y, .int .u32 z]] w fun e w' => e = .returned (.int .i64 (F.chk x y z)) ∧ Hid (Im w0 w' b s k c (F.unpin x y z) G u v p q cg X C cX cC) := by
  refine (unpin_s x y z _ h.st rfl).mono ?_
  rintro e w' ⟨rfl, h1, h2⟩
  exact ⟨rfl, h.pr h2.out h1.out⟩
theorem dim_unpin (x y z : Int) (h : Im w0 w b s k c F G u v p q cg X C cX cC) : Calls Try.prog 17 #[.pointer (some ⟨c, 0, none⟩), .agg #[.int .i64 x, .int .i64 y, .int .u32 z]] w fun e w' => e = .returned (.int .i64 (G.chk x y z)) ∧ Hid (Im w0 w' b s k c F (G.unpin x y z) u v p q cg X C cX cC) := by
  obtain ⟨d, h1, h2⟩ := h.dw
  refine (dunpin_ok c d G x y z w h1).mono ?_
  rintro e w' ⟨rfl, h3⟩
  exact ⟨rfl, h.doc h1 h2 h3.out⟩
theorem im_shows (x y z : Int) (h : Im w0 w b s k c F F u v p q cg X C cX cC) : Calls Try.prog 15 #[.pointer (some ⟨b, 0, none⟩), .pointer (some ⟨c, 0, none⟩), .agg #[.int .i64 x, .int .i64 y, .int .u32 z]] w fun e w' => e = .returned (.bool true) ∧ Hid (Im w0 w' b s k c F F u v p q cg X C cX cC) := by
  obtain ⟨d, h1, h2⟩ := h.dw
  refine (shows_ok b s k c d F x y z w0 w ⟨h.st, h1, h.lc, h2⟩).mono ?_
  rintro e w' ⟨rfl, h3⟩
  exact ⟨rfl, h.quiet h3⟩
theorem dpin_ok (c d : Nat) (F : Po) (x : Int) (w : World) (h : DW w c d F) : Calls Try.prog 14 #[.pointer (some ⟨c, 0, none⟩), .int .i64 x] w (DPinP c d F x w) := by
  by_cases hx : x < 1 ∨ 65536 < x
  · exact dpin_arg c d F x hx w h
  · obtain ⟨n, rfl⟩ : ∃ n : Nat, x = n := ⟨x.toNat, by omega⟩
    exact dpin_in c d n F (by omega) (by omega) w h
theorem im_pin (x : Int) (h : Im w0 w b s k c F G u v p q cg X C cX cC) : Calls Try.prog 13 #[.pointer (some ⟨b, 0, none⟩), .int .i64 x] w fun e w' => e = .returned (.tuple #[.agg #[.int .i64 (F.pK x), .int .i64 (F.pI x), .int .u32 (F.pG x)], .int .i64 (F.can x)]) ∧ Hid (Im w0 w' b s k c (F.pin x) G u v p q cg X C cX cC) := by
  refine (pin_s x _ _ _ _ h.st rfl rfl rfl rfl).mono ?_
  rintro e w' ⟨rfl, h1, h2⟩
  exact ⟨rfl, h.pr h2.out h1.out⟩
theorem dim_pin (x : Int) (h : Im w0 w b s k c F G u v p q cg X C cX cC) : Calls Try.prog 14 #[.pointer (some ⟨c, 0, none⟩), .int .i64 x] w fun e w' => e = .returned (.tuple #[.agg #[.int .i64 (G.pK x), .int .i64 (G.pI x), .int .u32 (G.pG x)], .int .i64 (G.can x)]) ∧ Hid (Im w0 w' b s k c F (G.pin x) u v p q cg X C cX cC) ∧ Hid (∀ D cD, Bk w D 34 cD → Bk w' D 34 cD) := by
  obtain ⟨d, h1, h2⟩ := h.dw
  refine (dpin_ok c d G x w h1).mono ?_
  rintro e w' ⟨rfl, h3⟩
  have h4 := h3
  obtain ⟨d', _, _, g3⟩ := h4
  exact ⟨rfl, h.doc h1 h2 h3, fun D cD hD => hD.kept g3 (h1.noc hD (by decide))⟩
/-- Both pinned, at whatever number. -/
theorem im_pin2 (x : Int) (F : Po) : ∃ (K I N E : Int) (F' : Po), (∀ (w0 w : World) (b s k c : Nat) (u v : Value) (p : Option Addr) (q cg X C : Nat) (cX cC : Array Value), Im w0 w b s k c F F u v p q cg X C cX cC → Calls Try.prog 13 #[.pointer (some ⟨b, 0, none⟩), .int .i64 x] w fun e w' => e = .returned (.tuple #[.agg #[.int .i64 K, .int .i64 I, .int .u32 N], .int .i64 E]) ∧ Hid (Im w0 w' b s k c F' F u v p q cg X C cX cC))
    ∧ ∀ (w0 w : World) (b s k c : Nat) (u v : Value) (p : Option Addr) (q cg X C : Nat) (cX cC : Array Value), Im w0 w b s k c F' F u v p q cg X C cX cC → Calls Try.prog 14 #[.pointer (some ⟨c, 0, none⟩), .int .i64 x] w fun e w' => e = .returned (.tuple #[.agg #[.int .i64 K, .int .i64 I, .int .u32 N], .int .i64 E]) ∧ Hid (Im w0 w' b s k c F' F' u v p q cg X C cX cC) ∧ Hid (∀ D cD, Bk w D 34 cD → Bk w' D 34 cD) :=
  ⟨F.pK x, F.pI x, F.pG x, F.can x, F.pin x, fun _ _ _ _ _ _ _ _ _ _ _ _ _ _ _ h => im_pin x h, fun _ _ _ _ _ _ _ _ _ _ _ _ _ _ _ h => dim_pin x h⟩
/-- The program's pool copied, the document's not yet. -/
def Cp (w0 w : World) (b s k c : Nat) (F : Po) (p : Option Addr) (q cg X C : Nat) (cX cC : Array Value) (b2 : Nat) : Prop := ∃ s2 k2, Im w0 w b s k c F F (.pointer none) (.pointer none) p q cg X C cX cC ∧ PW w b2 s2 k2 F ∧ (∀ g, PFoot b2 s2 k2 g → w0.heap.size ≤ g) ∧ (∀ d, DW w c d F → w0.heap.size ≤ d → ∀ g, TFoot b s k c d g → ¬ PFoot b2 s2 k2 g)
theorem im_copy (h : Im w0 w b s k c F F u v p q cg X C cX cC) : Calls Try.prog 18 #[.pointer (some ⟨b, 0, none⟩)] w fun e w' => ∃ b2, e = .returned (.pointer (some ⟨b2, 0, none⟩)) ∧ Hid (Cp w0 w' b s k c F p q cg X C cX cC b2) := by
  refine (pcopy_ok b s k F w h.st.f).mono ?_
  rintro e w' ⟨b2, rfl, s2, k2, h1, h2, h3⟩
  have hi : Im w0 w b s k c F F (.pointer none) (.pointer none) p q cg X C cX cC := ⟨h.st, h.dw, h.lc, .inl rfl, h.row, h.bX, h.bC⟩
  refine ⟨b2, rfl, s2, k2, hi.quiet h3, h1, fun g hg => Nat.le_trans h.st.bel.size (h2 g hg), fun d hd hl g hg hf => ?_⟩
  obtain ⟨cs, hb⟩ := hd.dbk
  rcases hg with hg | rfl | rfl
  · have := h.st.f.foot_lt hg; have := h2 g hf; omega
  · exact h1.no_c hd hf
  · exact h1.no_d hd hf
theorem cp_copy {b2 : Nat} (h : Cp w0 w b s k c F p q cg X C cX cC b2) : Calls Try.prog 19 #[.pointer (some ⟨c, 0, none⟩)] w fun e w' => ∃ c2, e = .returned (.pointer (some ⟨c2, 0, none⟩)) ∧ Hid (∃ s2 k2, Im w0 w' b2 s2 k2 c2 F F (.pointer (some ⟨b, 0, none⟩)) (.pointer (some ⟨c, 0, none⟩)) p q cg X C cX cC) := by
  obtain ⟨s2, k2, h1, h2, h3, h4⟩ := h
  obtain ⟨d, hd, hl⟩ := h1.dw
  refine (dcopy_ok c d F w hd).mono ?_
  rintro e w' ⟨c2, rfl, hN⟩
  obtain ⟨d2, k1, k2', k3, k4⟩ := hN.out
  have hs := h1.st.bel.size
  have hps : PS w0 w b s k c d F := ⟨h1.st, hd, h1.lc, hl⟩
  have hq := h1.quiet k4
  refine ⟨c2, rfl, s2, k2, ⟨h2.below k4, hq.bel, h3⟩, ⟨d2, k1, by omega⟩, by omega, .inr ⟨b, s, k, c, d, F, rfl, rfl, hps.quiet k4, fun g hg hf => ?_⟩, hq.row, hq.bX, hq.bC⟩
  have hlt := hps.foot_lt hg
  rcases hf with hf | rfl
  · exact h4 d hd hl g hg hf
  · omega
end
end Go.Proofs.Ytjhgckaaaonbiaa
