/- The program's table and the document's at once; what both show. -/
import Derived.Test.YthahmcipkchdjaaFn
import Derived.Test.YthahmcipkchdjaaFv
namespace Go.Proofs.Ythahmcipkchdjaa
open Go.RowKit

/-- Both tables hold the same, in memory that was made since w0. -/
structure PS (w0 w : World) (b k m c d : Nat) (F : Fb) : Prop where
  fs : FSt w0 w b k m F
  dw : DW w c d F
  lc : w0.heap.size ≤ c
  ld : w0.heap.size ≤ d
def PFoot (b k m c d g : Nat) : Prop := FFoot b k m g ∨ g = c ∨ g = d
section
variable {w0 w w' : World} {b k m c d : Nat} {F G : Fb}
theorem PS.quiet (h : PS w0 w b k m c d F) (q : Below w.heap.size w w') : PS w0 w' b k m c d F := ⟨h.fs.quiet q, h.dw.below q, h.lc, h.ld⟩
theorem PS.foot_lt (h : PS w0 w b k m c d F) {g : Nat} (hg : PFoot b k m c d g) : g < w.heap.size := by
  rcases hg with hg | rfl | rfl
  · exact h.fs.f.foot_lt hg
  · exact h.dw.ct
  · exact h.dw.dt
theorem PS.foot_lo (h : PS w0 w b k m c d F) {g : Nat} (hg : PFoot b k m c d g) : w0.heap.size ≤ g := by
  rcases hg with hg | rfl | rfl
  · exact h.fs.lo g hg
  · exact h.lc
  · exact h.ld
theorem DW.cbk (h : DW w c d F) : ∃ cs, Bk w c 82 cs := by obtain ⟨_, _, h1, _⟩ := h.at_; exact ⟨_, h1⟩
theorem DW.dbk (h : DW w c d F) : ∃ cs, Bk w d 84 cs := by obtain ⟨_, _, _, h1, _⟩ := h.at_; exact ⟨_, h1⟩
/-- The document's blocks are no part of a table of the program's. -/
theorem FW.no_c (f : FW w b k m F) (h : DW w c d G) : ¬ FFoot b k m c := by obtain ⟨cs, hc⟩ := h.cbk; exact f.box hc (by decide) (by decide)
theorem FW.no_d (f : FW w b k m F) (h : DW w c d G) : ¬ FFoot b k m d := by obtain ⟨cs, hc⟩ := h.dbk; exact f.box hc (by decide) (by decide)
/-- A block of another type is no part of both tables. -/
theorem PS.box {A : Nat} {t : TypeId} {cs : Array Value} (f : FW w b k m F) (h : DW w c d G) (hA : Bk w A t cs) (h1 : t ≠ 75) (h2 : t ≠ 106) (h3 : t ≠ 82) (h4 : t ≠ 84) : ¬ PFoot b k m c d A := by
  rintro (h | rfl | rfl)
  · exact f.box hA h1 h2 h
  · obtain ⟨cs', hc⟩ := h.cbk; exact h3 (hA.uniq hc).1
  · obtain ⟨cs', hc⟩ := h.dbk; exact h4 (hA.uniq hc).1
end
set_option maxHeartbeats 2000000 in
theorem shows_ok (b k m c d : Nat) (F : Fb) (x y z : Int) (hr : RgO x y z) (w0 w : World) (h : PS w0 w b k m c d F) :
    Calls Try.prog 20 #[.pointer (some ⟨b, 0, none⟩), .pointer (some ⟨c, 0, none⟩), .agg #[.int .i64 x, .int .i64 y, .int .u32 z]] w fun e w' => e = .returned (.bool true) ∧ Below w.heap.size w w' := by
  obtain ⟨L, hL⟩ : ∃ L, F.all = L := ⟨_, rfl⟩
  obtain ⟨N, hN⟩ : ∃ N, F.number x y z = N := ⟨_, rfl⟩
  obtain ⟨E, hE⟩ : ∃ E, F.chk x y z = E := ⟨_, rfl⟩
  obtain ⟨n, hn⟩ : ∃ n, F.t.held.length = n := ⟨_, rfl⟩
  have HP := Lib.hid h
  have N1 : Hid (∀ W, Below w.heap.size w W → Calls Try.prog 27 #[.pointer (some ⟨b, 0, none⟩), .agg #[.int .i64 x, .int .i64 y, .int .u32 z]] W fun e w' => e = .returned (.tuple #[.int .i64 N, .int .i64 E]) ∧ Below W.heap.size W w') := fun W hW => by
    have := fnumber_ok b k m F x y z hr W (h.quiet hW).fs.f
    rw [hN, hE] at this; exact this
  have N2 : Hid (∀ W, Below w.heap.size w W → Calls Try.prog 43 #[.pointer (some ⟨c, 0, none⟩), .agg #[.int .i64 x, .int .i64 y, .int .u32 z]] W fun e w' => e = .returned (.tuple #[.int .i64 N, .int .i64 E]) ∧ Below W.heap.size W w') := fun W hW => by
    have := dnumber_ok c d F x y z hr W (h.quiet hW).dw
    rw [hN, hE] at this; exact this
  have A1 : Hid (∀ W, Below w.heap.size w W → Calls Try.prog 29 #[.pointer (some ⟨b, 0, none⟩)] W fun e w' => ∃ p c', e = .returned (.slice p L.length c') ∧ RdO w' (.slice p L.length c') L ∧ Below W.heap.size W w') := fun W hW => by
    have := fall_ok b k m F W (h.quiet hW).fs.f
    rw [hL] at this
    exact this.mono fun e w' ⟨p, c', h1, h2, h3⟩ => ⟨p, c', h1, RdO.of_own h2, h3⟩
  have A2 : Hid (∀ W, Below w.heap.size w W → Calls Try.prog 13 #[.pointer (some ⟨c, 0, none⟩)] W fun e w' => ∃ p c', e = .returned (.slice p L.length c') ∧ RdO w' (.slice p L.length c') L ∧ Below W.heap.size W w') := fun W hW => by
    have := dall_ok c d F W (h.quiet hW).dw
    rw [hL] at this
    exact this.mono fun e w' ⟨p, c', h1, h2, h3⟩ => ⟨p, c', h1, RdO.of_own h2, h3⟩
  have L1 : Hid (∀ W, Below w.heap.size w W → Calls Try.prog 30 #[.pointer (some ⟨b, 0, none⟩)] W fun e w' => e = .returned (.int .i64 n) ∧ W = w') := fun W hW => by
    have := flen_ok b k m F W (h.quiet hW).fs.f
    rw [hn] at this; exact this
  have L2 : Hid (∀ W, Below w.heap.size w W → Calls Try.prog 44 #[.pointer (some ⟨c, 0, none⟩)] W fun e w' => e = .returned (.int .i64 n) ∧ Below W.heap.size W w') := fun W hW => by
    have := dlen_ok c d F W (h.quiet hW).dw
    rw [hn] at this; exact this
  have EQ : Hid (∀ W p c' p2 c2, RdO W (.slice p L.length c') L → RdO W (.slice p2 L.length c2) L → Calls Try.prog 28 #[.slice p L.length c', .slice p2 L.length c2] W fun e w' => e = .returned (.bool true) ∧ Below W.heap.size W w') := fun W p c' p2 c2 h1 h2 => equal_yes _ _ _ _ _ _ L W h1 h2
  generalize L.length = q at *
  clear h hL hN hE hn hr HP
  go_enter Try.func20, Try.ntmps20
  go_wp2_with (first
    | (go_at_call 27; refine (N1.out _ ((Below.refl _ _).alloc (Nat.le_refl _) _)).mono ?_; rintro e w2 ⟨rfl, hb⟩; have H2 := Lib.hid (bel2 ((Below.refl _ _).alloc (Nat.le_refl _) _) hb); obtain ⟨q0, q1, q2, q3⟩ := box_o hb; clear hb)
    | (go_at_call 43; refine (N2.out _ H2.out).mono ?_; rintro e w3 ⟨rfl, hb⟩; have H3 := Lib.hid (bel2 H2.out hb); clear hb q0 q1 q2 q3)
    | (go_at_call 29; refine (A1.out _ H3.out).mono ?_; rintro e w4 ⟨p, c', rfl, h4, hb⟩; have R4 := Lib.hid h4; have H4 := Lib.hid (bel2 H3.out hb); clear h4 hb)
    | (go_at_call 13; refine (A2.out _ H4.out).mono ?_; rintro e w5 ⟨p2, c2, rfl, h5, hb⟩; have R5 := Lib.hid (And.intro (R4.out.below hb) h5); have H5 := Lib.hid (bel2 H4.out hb); clear h5 hb)
    | (go_at_call 28; refine (EQ.out _ _ _ _ _ R5.out.1 R5.out.2).mono ?_; rintro e w6 ⟨rfl, hb⟩; have H6 := Lib.hid (bel2 H5.out hb); clear hb)
    | (go_at_call 30; refine (L1.out _ H6.out).mono ?_; rintro e w' ⟨rfl, rfl⟩)
    | (go_at_call 44; refine (L2.out _ H6.out).mono ?_; rintro e w7 ⟨rfl, hb⟩; have H7 := Lib.hid (bel2 H6.out hb); clear hb))
  go_ret
  exact ⟨rfl, H7.out⟩
/-! ### Beside an older pair, and with the boxes of a step -/
def Old (w0 w : World) (S : Nat → Prop) (u v : Value) : Prop := u = .pointer none ∨ ∃ b k m c d F, u = .pointer (some ⟨b, 0, none⟩) ∧ v = .pointer (some ⟨c, 0, none⟩) ∧ PS w0 w b k m c d F ∧ ∀ g, PFoot b k m c d g → ¬ S g
theorem Old.kept {w0 w w' : World} {S T : Nat → Prop} {u v : Value} (h : Old w0 w S u v) (q : Kept T w w') (hT : ∀ g, T g → S g) (lo : ∀ g, T g → w0.heap.size ≤ g) : Old w0 w' S u v := by
  rcases h with h | ⟨b, k, m, c, d, F, e1, e2, h1, h2⟩
  · exact .inl h
  · refine .inr ⟨b, k, m, c, d, F, e1, e2, ⟨⟨h1.fs.f.kept q fun g hg hs => h2 g (.inl hg) (hT g hs), h1.fs.bel.trans (q.below h1.fs.bel.size lo), h1.fs.lo⟩, h1.dw.kept q (fun hs => h2 c (.inr (.inl rfl)) (hT c hs)) (fun hs => h2 d (.inr (.inr rfl)) (hT d hs)), h1.lc, h1.ld⟩, h2⟩
theorem Old.below {w0 w w' : World} {S : Nat → Prop} {u v : Value} (h : Old w0 w S u v) (q : Below w.heap.size w w') : Old w0 w' S u v := by
  rcases h with h | ⟨b, k, m, c, d, F, e1, e2, h1, h2⟩
  · exact .inl h
  · exact .inr ⟨b, k, m, c, d, F, e1, e2, h1.quiet q, h2⟩
structure It (w0 w : World) (b k m c d : Nat) (F G : Fb) (u v : Value) (X C : Nat) (cX cC : Array Value) : Prop where
  fs : FSt w0 w b k m F
  dw : DW w c d G
  lc : w0.heap.size ≤ c
  ld : w0.heap.size ≤ d
  old : Old w0 w (PFoot b k m c d) u v
  bX : Bk w X 35 cX
  bC : Bk w C 25 cC
section
variable {w0 w w' : World} {b k m c d X C : Nat} {F G F' : Fb} {u v : Value} {cX cC : Array Value}
theorem It.quiet (h : It w0 w b k m c d F G u v X C cX cC) (q : Below w.heap.size w w') : It w0 w' b k m c d F G u v X C cX cC :=
  ⟨h.fs.quiet q, h.dw.below q, h.lc, h.ld, h.old.below q, h.bX.below q, h.bC.below q⟩
theorem It.ps (h : It w0 w b k m c d F F u v X C cX cC) : PS w0 w b k m c d F := ⟨h.fs, h.dw, h.lc, h.ld⟩
theorem It.p (h : It w0 w b k m c d F G u v X C cX cC) (q : Kept (FFoot b k m) w w') (f : FW w' b k m F') : It w0 w' b k m c d F' G u v X C cX cC :=
  ⟨h.fs.step q f, h.dw.kept q (h.fs.f.no_c h.dw) (h.fs.f.no_d h.dw), h.lc, h.ld, h.old.kept q (fun _ hg => .inl hg) h.fs.lo, h.bX.kept q (h.fs.f.box h.bX (by decide) (by decide)), h.bC.kept q (h.fs.f.box h.bC (by decide) (by decide))⟩
theorem DW.nod {A : Nat} {t : TypeId} {cs : Array Value} (h : DW w c d G) (hA : Bk w A t cs) (h4 : t ≠ 84) : A ≠ d := by
  rintro rfl
  obtain ⟨cs', hc⟩ := h.dbk
  exact h4 (hA.uniq hc).1
theorem It.doc (h : It w0 w b k m c d F G u v X C cX cC) (q : Kept (· = d) w w') (f : DW w' c d F') : It w0 w' b k m c d F F' u v X C cX cC :=
  have lo : ∀ g, g = d → w0.heap.size ≤ g := fun _ e => by rw [e]; exact h.ld
  ⟨⟨h.fs.f.kept q fun g hg e => h.fs.f.no_d h.dw (by subst e; exact hg), h.fs.bel.trans (q.below h.fs.bel.size lo), h.fs.lo⟩, f, h.lc, h.ld, h.old.kept q (fun _ e => .inr (.inr e)) lo, h.bX.kept q (h.dw.nod h.bX (by decide)), h.bC.kept q (h.dw.nod h.bC (by decide))⟩
theorem It.cell (h : It w0 w b k m c d F G u v X C cX cC) : (∀ i, w.cell? ⟨X, i, none⟩ = cX[i]?) ∧ ∀ i, w.cell? ⟨C, i, none⟩ = cC[i]? := ⟨h.bX.cell, h.bC.cell⟩
theorem It.bel (h : It w0 w b k m c d F G u v X C cX cC) : Below w0.heap.size w0 w := h.fs.bel
theorem it_close (x y z : Int) (hr : RgO x y z) (h : It w0 w b k m c d F G u v X C cX cC) : Calls Try.prog 16 #[.pointer (some ⟨b, 0, none⟩), .agg #[.int .i64 x, .int .i64 y, .int .u32 z]] w fun e w' => e = .returned (.int .i64 (F.chk x y z)) ∧ Hid (It w0 w' b k m c d (F.closed x y z) G u v X C cX cC) := by
  refine (fclose_ok b k m F x y z hr w h.fs.f).mono ?_
  rintro e w' ⟨rfl, h1, h2⟩
  exact ⟨rfl, h.p h2 h1⟩
theorem dit_close (x y z : Int) (hr : RgO x y z) (h : It w0 w b k m c d F G u v X C cX cC) : Calls Try.prog 17 #[.pointer (some ⟨c, 0, none⟩), .agg #[.int .i64 x, .int .i64 y, .int .u32 z]] w fun e w' => e = .returned (.int .i64 (G.chk x y z)) ∧ Hid (It w0 w' b k m c d F (G.closed x y z) u v X C cX cC) := by
  refine (dclose_ok c d G x y z hr w h.dw).mono ?_
  rintro e w' ⟨rfl, h1, h2⟩
  exact ⟨rfl, h.doc h2 h1⟩
/-- Both opened, at whatever number. -/
theorem it_open2 (x : Int) (hx : I64 x) (F : Fb) : ∃ (K I N E : Int) (F' : Fb), (∀ (w0 w : World) (b k m c d X C : Nat) (u v : Value) (cX cC : Array Value), It w0 w b k m c d F F u v X C cX cC → Calls Try.prog 14 #[.pointer (some ⟨b, 0, none⟩), .int .i64 x] w fun e w' => e = .returned (.tuple #[.agg #[.int .i64 K, .int .i64 I, .int .u32 N], .int .i64 E]) ∧ Hid (It w0 w' b k m c d F' F u v X C cX cC))
    ∧ ∀ (w0 w : World) (b k m c d X C : Nat) (u v : Value) (cX cC : Array Value), It w0 w b k m c d F' F u v X C cX cC → Calls Try.prog 15 #[.pointer (some ⟨c, 0, none⟩), .int .i64 x] w fun e w' => e = .returned (.tuple #[.agg #[.int .i64 K, .int .i64 I, .int .u32 N], .int .i64 E]) ∧ Hid (It w0 w' b k m c d F' F' u v X C cX cC) ∧ Hid (∀ D cD, Bk w D 25 cD → Bk w' D 25 cD) := by
  by_cases h : 0 ≤ x ∧ x ≤ 65535
  · obtain ⟨n, rfl⟩ : ∃ n : Nat, x = n := ⟨x.toNat, by omega⟩
    refine ⟨F.oK, F.oI, F.oG, F.oE, F.opn n, fun w0 w b k m c d X C u v cX cC h => ?_, fun w0 w b k m c d X C u v cX cC h => ?_⟩
    · refine (fopen_ok b k m n F (by omega) w h.fs.f).mono ?_
      rintro e w' ⟨rfl, h1, h2⟩
      exact ⟨rfl, h.p h2 h1⟩
    · refine (dopen_ok c d n F (by omega) w h.dw).mono ?_
      rintro e w' ⟨rfl, h1, h2⟩
      exact ⟨rfl, h.doc h2 h1, fun D cD hD => hD.kept h2 (h.dw.nod hD (by decide))⟩
  · refine ⟨0, 0, 0, 2, F, fun w0 w b k m c d X C u v cX cC h => ?_, fun w0 w b k m c d X C u v cX cC h => ?_⟩
    · refine (fopen_arg b k m F x hx (by omega) w h.fs.f).mono ?_
      rintro e w' ⟨rfl, h1⟩
      exact ⟨rfl, h.quiet h1⟩
    · refine (dopen_arg c x hx (by omega) w).mono ?_
      rintro e w' ⟨rfl, h1⟩
      exact ⟨rfl, h.quiet h1, fun D cD hD => hD.below h1⟩
/-- The program's table copied, the document's not yet. -/
def Cp (w0 w : World) (b k m c d : Nat) (F : Fb) (X C : Nat) (cX cC : Array Value) (b2 : Nat) : Prop := ∃ k2 m2, It w0 w b k m c d F F (.pointer none) (.pointer none) X C cX cC ∧ FW w b2 k2 m2 F ∧ (∀ g, FFoot b2 k2 m2 g → w0.heap.size ≤ g) ∧ ∀ g, PFoot b k m c d g → ¬ FFoot b2 k2 m2 g
theorem it_copy (h : It w0 w b k m c d F F u v X C cX cC) : Calls Try.prog 18 #[.pointer (some ⟨b, 0, none⟩)] w fun e w' => ∃ b2, e = .returned (.pointer (some ⟨b2, 0, none⟩)) ∧ Hid (Cp w0 w' b k m c d F X C cX cC b2) := by
  refine (fcopy_ok b k m F w h.fs.f).mono ?_
  rintro e w' ⟨b2, rfl, k2, m2, h1, h2, h3⟩
  have hp := h.ps
  exact ⟨b2, rfl, k2, m2, It.quiet ⟨h.fs, h.dw, h.lc, h.ld, .inl rfl, h.bX, h.bC⟩ h3, h1, fun g hg => Nat.le_trans h.fs.bel.size (h2 g hg), fun g hg hf => by have := hp.foot_lt hg; have := h2 g hf; omega⟩
theorem cp_copy {b2 : Nat} (h : Cp w0 w b k m c d F X C cX cC b2) : Calls Try.prog 19 #[.pointer (some ⟨c, 0, none⟩)] w fun e w' => ∃ c2, e = .returned (.pointer (some ⟨c2, 0, none⟩)) ∧ Hid (∃ k2 m2 d2, It w0 w' b2 k2 m2 c2 d2 F F (.pointer (some ⟨b, 0, none⟩)) (.pointer (some ⟨c, 0, none⟩)) X C cX cC) := by
  obtain ⟨k2, m2, h1, h2, h3, h4⟩ := h
  refine (dcopy_ok c d F w h1.dw).mono ?_
  rintro e w' ⟨c2, rfl, d2, k1, k2', k3, k4⟩
  have hs := h1.fs.bel.size
  have hp := h1.ps
  have hq := h1.quiet k4
  refine ⟨c2, rfl, k2, m2, d2, ⟨h2.below k4, hq.bel, h3⟩, k1, by omega, by omega, .inr ⟨b, k, m, c, d, F, rfl, rfl, hq.ps, fun g hg hf => ?_⟩, hq.bX, hq.bC⟩
  have hl := hp.foot_lt hg
  rcases hf with hf | rfl | rfl
  · exact h4 g hg hf
  · omega
  · omega
end
end Go.Proofs.Ythahmcipkchdjaa
