/- The program's pool and the document's at once; what both show. -/
import Derived.Test.YtjhgckaaaonbiaaVf
import Derived.Test.YtjhgckaaaonbiaaVg
import Derived.Test.YtjhgckaaaonbiaaVe
namespace Go.Proofs.Ytjhgckaaaonbiaa
open Go.RowKit

/-- Both pools hold the same, in memory that was made since w0. -/
structure PS (w0 w : World) (b s k c d : Nat) (P : Po) : Prop where
  st : PSt w0 w b s k P
  dw : DW w c d P
  lc : w0.heap.size ≤ c
  ld : w0.heap.size ≤ d
def TFoot (b s k c d g : Nat) : Prop := PFoot b s k g ∨ g = c ∨ g = d
section
variable {w0 w w' : World} {b s k c d : Nat} {P Q : Po}
theorem PS.quiet (h : PS w0 w b s k c d P) (q : Below w.heap.size w w') : PS w0 w' b s k c d P := ⟨h.st.quiet q, h.dw.below q, h.lc, h.ld⟩
theorem PS.foot_lt (h : PS w0 w b s k c d P) {g : Nat} (hg : TFoot b s k c d g) : g < w.heap.size := by
  rcases hg with hg | rfl | rfl
  · exact h.st.f.foot_lt hg
  · exact h.dw.ct
  · exact h.dw.dt
theorem PS.foot_lo (h : PS w0 w b s k c d P) {g : Nat} (hg : TFoot b s k c d g) : w0.heap.size ≤ g := by
  rcases hg with hg | rfl | rfl
  · exact h.st.lo g hg
  · exact h.lc
  · exact h.ld
theorem DW.cbk (h : DW w c d P) : ∃ cs, Bk w c 76 cs := by obtain ⟨_, _, h1, _⟩ := h.at_; exact ⟨_, h1⟩
theorem DW.dbk (h : DW w c d P) : ∃ cs, Bk w d 78 cs := by obtain ⟨_, _, _, h1, _⟩ := h.at_; exact ⟨_, h1⟩
/-- The document's blocks are no part of a pool of the program's. -/
theorem PW.no_c (f : PW w b s k P) (h : DW w c d Q) : ¬ PFoot b s k c := by obtain ⟨cs, hc⟩ := h.cbk; exact f.box hc (by decide) (by decide) (by decide)
theorem PW.no_d (f : PW w b s k P) (h : DW w c d Q) : ¬ PFoot b s k d := by obtain ⟨cs, hc⟩ := h.dbk; exact f.box hc (by decide) (by decide) (by decide)
/-- A block of another type is no part of both pools. -/
theorem PS.box {A : Nat} {t : TypeId} {cs : Array Value} (f : PW w b s k P) (h : DW w c d Q) (hA : Bk w A t cs) (h1 : t ≠ 46) (h2 : t ≠ 98) (h5 : t ≠ 73) (h3 : t ≠ 76) (h4 : t ≠ 78) : ¬ TFoot b s k c d A := by
  rintro (h | rfl | rfl)
  · exact f.box hA h1 h2 h5 h
  · obtain ⟨cs', hc⟩ := h.cbk; exact h3 (hA.uniq hc).1
  · obtain ⟨cs', hc⟩ := h.dbk; exact h4 (hA.uniq hc).1
end
set_option maxHeartbeats 2000000 in
theorem shows_ok (b s k c d : Nat) (P : Po) (x y z : Int) (w0 w : World) (h : PS w0 w b s k c d P) :
    Calls Try.prog 15 #[.pointer (some ⟨b, 0, none⟩), .pointer (some ⟨c, 0, none⟩), .agg #[.int .i64 x, .int .i64 y, .int .u32 z]] w fun e w' => e = .returned (.bool true) ∧ Below w.heap.size w w' := by
  obtain ⟨L, hL⟩ : ∃ L, P.all = L := ⟨_, rfl⟩
  obtain ⟨N, hN⟩ : ∃ N, P.size x y z = N := ⟨_, rfl⟩
  obtain ⟨E, hE⟩ : ∃ E, P.chk x y z = E := ⟨_, rfl⟩
  obtain ⟨n, hn⟩ : ∃ n, P.t.held.length = n := ⟨_, rfl⟩
  obtain ⟨U, hU⟩ : ∃ U, P.used = U := ⟨_, rfl⟩
  have hl64 : L.length ≤ 64 := by rw [← hL, P.all_len]; exact h.dw.ok.held_len
  have N1 : Hid (∀ W, Below w.heap.size w W → Calls Try.prog 20 #[.pointer (some ⟨b, 0, none⟩), .agg #[.int .i64 x, .int .i64 y, .int .u32 z]] W fun e w' => e = .returned (.tuple #[.int .i64 N, .int .i64 E]) ∧ Below W.heap.size W w') := fun W hW =>
    (bytes_s x y z N E (h.quiet hW).st hN hE).mono fun e w' h => ⟨h.1, h.2.2.out⟩
  have N2 : Hid (∀ W, Below w.heap.size w W → Calls Try.prog 33 #[.pointer (some ⟨c, 0, none⟩), .agg #[.int .i64 x, .int .i64 y, .int .u32 z]] W fun e w' => e = .returned (.tuple #[.int .i64 N, .int .i64 E]) ∧ Below W.heap.size W w') := fun W hW => by
    have := dbytes_ok c d P x y z W (h.quiet hW).dw
    rw [hN, hE] at this; exact this
  have U1 : Hid (∀ W, Below w.heap.size w W → Calls Try.prog 21 #[.pointer (some ⟨b, 0, none⟩)] W fun e w' => e = .returned (.int .i64 U) ∧ Below W.heap.size W w') := fun W hW =>
    (used_s U (h.quiet hW).st hU).mono fun e w' h => ⟨h.1, h.2.2.out⟩
  have U2 : Hid (∀ W, Below w.heap.size w W → Calls Try.prog 31 #[.pointer (some ⟨c, 0, none⟩)] W fun e w' => e = .returned (.int .i64 U) ∧ W = w') := fun W hW => by
    have := dused_eq c d P W (h.quiet hW).dw
    rw [hU] at this; exact this
  have A1 : Hid (∀ W, Below w.heap.size w W → Calls Try.prog 22 #[.pointer (some ⟨b, 0, none⟩)] W fun e w' => ∃ p c', e = .returned (.slice p L.length c') ∧ RdO w' (.slice p L.length c') L ∧ Below W.heap.size W w') := fun W hW =>
    (all_s L (h.quiet hW).st hL).mono fun e w' ⟨p, c', h1, h2, _, h3⟩ => ⟨p, c', h1, h2.out.rd, h3.out⟩
  have A2 : Hid (∀ W, Below w.heap.size w W → Calls Try.prog 36 #[.pointer (some ⟨c, 0, none⟩)] W fun e w' => ∃ p c', e = .returned (.slice p L.length c') ∧ RdO w' (.slice p L.length c') L ∧ Below W.heap.size W w') := fun W hW => by
    have := dall_ok c d P W (h.quiet hW).dw
    rw [hL] at this
    exact this.mono fun e w' ⟨p, c', h1, h2, h3⟩ => ⟨p, c', h1, RdO.of_own h2, h3⟩
  have L1 : Hid (∀ W, Below w.heap.size w W → Calls Try.prog 23 #[.pointer (some ⟨b, 0, none⟩)] W fun e w' => e = .returned (.int .i64 n) ∧ Below W.heap.size W w') := fun W hW =>
    (len_s n (h.quiet hW).st hn).mono fun e w' h => ⟨h.1, h.2.2.out⟩
  have L2 : Hid (∀ W, Below w.heap.size w W → Calls Try.prog 34 #[.pointer (some ⟨c, 0, none⟩)] W fun e w' => e = .returned (.int .i64 n) ∧ Below W.heap.size W w') := fun W hW => by
    have := dlen_ok c d P W (h.quiet hW).dw
    rw [hn] at this; exact this
  obtain ⟨q, hq⟩ : ∃ q, L.length = q := ⟨_, rfl⟩
  rw [hq] at hl64 A1 A2
  have EQ : Hid (∀ W p c' p2 c2, RdO W (.slice p q c') L → RdO W (.slice p2 q c2) L → Calls Try.prog 35 #[.slice p q c', .slice p2 q c2] W fun e w' => e = .returned (.bool true) ∧ Below W.heap.size W w') := fun W p c' p2 c2 h1 h2 => dsame_yes p p2 q c' c2 L hq hl64 W h1 h2
  clear h hL hN hE hn hU hq
  go_enter Try.func15, Try.ntmps15
  go_wp2_with (first
    | (go_at_call 20; refine (N1.out _ ((Below.refl _ _).alloc (Nat.le_refl _) _)).mono ?_; rintro e w2 ⟨rfl, hb⟩; have H2 := Lib.hid (bel2 ((Below.refl _ _).alloc (Nat.le_refl _) _) hb); obtain ⟨q0, q1, q2, q3⟩ := box_o hb; clear hb)
    | (go_at_call 33; refine (N2.out _ H2.out).mono ?_; rintro e w3 ⟨rfl, hb⟩; have H3 := Lib.hid (bel2 H2.out hb); clear hb q0 q1 q2 q3)
    | (go_at_call 21; refine (U1.out _ H3.out).mono ?_; rintro e w4 ⟨rfl, hb⟩; have H4 := Lib.hid (bel2 H3.out hb); clear hb)
    | (go_at_call 31; refine (U2.out _ H4.out).mono ?_; rintro e w' ⟨rfl, rfl⟩)
    | (go_at_call 23; refine (L1.out _ H4.out).mono ?_; rintro e w5 ⟨rfl, hb⟩; have H5 := Lib.hid (bel2 H4.out hb); clear hb)
    | (go_at_call 34; refine (L2.out _ H5.out).mono ?_; rintro e w6 ⟨rfl, hb⟩; have H6 := Lib.hid (bel2 H5.out hb); clear hb)
    | (go_at_call 22; refine (A1.out _ H6.out).mono ?_; rintro e w7 ⟨p, c', rfl, h4, hb⟩; have R4 := Lib.hid h4; have H7 := Lib.hid (bel2 H6.out hb); clear h4 hb)
    | (go_at_call 36; refine (A2.out _ H7.out).mono ?_; rintro e w8 ⟨p2, c2, rfl, h5, hb⟩; have R5 := Lib.hid (And.intro (R4.out.below hb) h5); have H8 := Lib.hid (bel2 H7.out hb); clear h5 hb)
    | (go_at_call 35; refine (EQ.out _ _ _ _ _ R5.out.1 R5.out.2).mono ?_; rintro e w9 ⟨rfl, hb⟩; have H9 := Lib.hid (bel2 H8.out hb); clear hb))
  go_ret
  exact ⟨rfl, H9.out⟩
end Go.Proofs.Ytjhgckaaaonbiaa
