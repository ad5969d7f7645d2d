/- The program's heap and the document's at once; what both show. -/
import Derived.Test.YtfnhkapbfgofkaaWcc
import Derived.Test.YtfnhkapbfgofkaaWcf
import Derived.Test.YtfnhkapbfgofkaaWcg
import Derived.Test.YtfnhkapbfgofkaaWvb
import Derived.Deep.RegionHeld3
namespace Go.Proofs.Ytfnhkapbfgofkaa
open Go.RowKit
attribute [local go_sem] eqArr eqArr'

/-- Both heaps hold the same, in memory that was made since w0. -/
structure PS (w0 w : World) (b p t c d : Nat) (H : Hp) : Prop where
  st : HSt w0 w b p t H
  dw : EW w c d H
  lc : w0.heap.size ≤ c
  ld : w0.heap.size ≤ d
def TFoot (b p t c d g : Nat) : Prop := HFoot b p t g ∨ g = c ∨ g = d
section
variable {w0 w w' : World} {b p t c d : Nat} {H G : Hp}
theorem PS.quiet (h : PS w0 w b p t c d H) (q : Below w.heap.size w w') : PS w0 w' b p t c d H := ⟨h.st.quiet q, h.dw.below q, h.lc, h.ld⟩
theorem PS.foot_lt (h : PS w0 w b p t c d H) {g : Nat} (hg : TFoot b p t c d g) : g < w.heap.size := by
  rcases hg with hg | rfl | rfl
  · exact h.st.f.foot_lt hg
  · exact h.dw.ct
  · exact h.dw.dt
theorem PS.foot_lo (h : PS w0 w b p t c d H) {g : Nat} (hg : TFoot b p t c d g) : w0.heap.size ≤ g := by
  rcases hg with hg | rfl | rfl
  · exact h.st.lo g hg
  · exact h.lc
  · exact h.ld
theorem EW.cbk (h : EW w c d H) : ∃ cs, Bk w c 85 cs := by obtain ⟨_, _, h1, _⟩ := h.at_; exact ⟨_, h1⟩
theorem EW.dbk (h : EW w c d H) : ∃ cs, Bk w d 88 cs := by obtain ⟨_, _, _, h1, _⟩ := h.at_; exact ⟨_, h1⟩
/-- The document's blocks are no part of a heap of the program's. -/
theorem HW.no_c (f : HW w b p t H) (h : EW w c d G) : ¬ HFoot b p t c := by obtain ⟨cs, hc⟩ := h.cbk; exact f.box hc (by decide) (by decide) (by decide)
theorem HW.no_d (f : HW w b p t H) (h : EW w c d G) : ¬ HFoot b p t d := by obtain ⟨cs, hc⟩ := h.dbk; exact f.box hc (by decide) (by decide) (by decide)
/-- A block of another type is no part of both heaps. -/
theorem PS.box {A : Nat} {u : TypeId} {cs : Array Value} (f : HW w b p t H) (h : EW w c d G) (hA : Bk w A u cs) (h1 : u ≠ 49) (h2 : u ≠ 82) (h5 : u ≠ 112) (h3 : u ≠ 85) (h4 : u ≠ 88) : ¬ TFoot b p t c d A := by
  rintro (h | rfl | rfl)
  · exact f.box hA h1 h2 h5 h
  · obtain ⟨cs', hc⟩ := h.cbk; exact h3 (hA.uniq hc).1
  · obtain ⟨cs', hc⟩ := h.dbk; exact h4 (hA.uniq hc).1
end
/-- The ten cells of a box. -/
def Tn (X : World) (B : Nat) (o : Ob) : Prop :=
  X.cell? ⟨B, 0, none⟩ = some (.int .i64 o.n) ∧ X.cell? ⟨B, 1, none⟩ = some (.int .i64 o.a.1) ∧ X.cell? ⟨B, 2, none⟩ = some (.int .u32 o.a.2) ∧ X.cell? ⟨B, 3, none⟩ = some (.int .i64 o.b.1) ∧ X.cell? ⟨B, 4, none⟩ = some (.int .u32 o.b.2) ∧ X.cell? ⟨B, 5, none⟩ = some (.int .i64 o.c.1) ∧ X.cell? ⟨B, 6, none⟩ = some (.int .u32 o.c.2) ∧ X.cell? ⟨B, 7, none⟩ = some (.int .i64 o.d.1) ∧ X.cell? ⟨B, 8, none⟩ = some (.int .u32 o.d.2) ∧ X.cell? ⟨B, 9, none⟩ = some (.bool o.h)
set_option maxHeartbeats 16000000 in
set_option maxRecDepth 100000 in
theorem shows_ok (b p t c d : Nat) (H : Hp) (x y : Int) (w0 w : World) (h : PS w0 w b p t c d H) :
    Calls Try.prog 24 #[.pointer (some ⟨b, 0, none⟩), .pointer (some ⟨c, 0, none⟩), .agg #[.int .i64 x, .int .u32 y]] w fun e w' => e = .returned (.bool true) ∧ Below w.heap.size w w' := by
  obtain ⟨L, hL⟩ : ∃ L, H.t.now = L := ⟨_, rfl⟩
  obtain ⟨o, ho⟩ : ∃ o, H.obj (x, y) = o := ⟨_, rfl⟩
  obtain ⟨E, hE⟩ : ∃ E, H.chk (x, y) = E := ⟨_, rfl⟩
  obtain ⟨B, hB⟩ : ∃ B, (E == 0) = B := ⟨_, rfl⟩
  obtain ⟨n, hn⟩ : ∃ n, H.t.held.length = n := ⟨_, rfl⟩
  obtain ⟨m, hm⟩ : ∃ m, H.t.free.length = m := ⟨_, rfl⟩
  have hl256 : L.length ≤ 1000 := by
    rw [← hL, H.t.now_len]
    have := H.t.held_len h.dw.ok.t
    have := h.dw.ok.t.hi
    omega
  have hB' : (H.chk (x, y) == 0) = B := by rw [hE]; exact hB
  have O1 : Hid (∀ W, Below w.heap.size w W → Calls Try.prog 26 #[.pointer (some ⟨b, 0, none⟩), .agg #[.int .i64 x, .int .u32 y]] W fun e w' => e = .returned (.tuple #[.agg #[.int .i64 o.n, .int .i64 o.a.1, .int .u32 o.a.2, .int .i64 o.b.1, .int .u32 o.b.2, .int .i64 o.c.1, .int .u32 o.c.2, .int .i64 o.d.1, .int .u32 o.d.2, .bool o.h], .int .i64 E]) ∧ Below W.heap.size W w') := fun W hW => obj_s x y o E (h.quiet hW).st ho hE
  have O2 : Hid (∀ W, Below w.heap.size w W → Calls Try.prog 46 #[.pointer (some ⟨c, 0, none⟩), .agg #[.int .i64 x, .int .u32 y]] W fun e w' => e = .returned (.tuple #[.agg #[.int .i64 o.n, .int .i64 o.a.1, .int .u32 o.a.2, .int .i64 o.b.1, .int .u32 o.b.2, .int .i64 o.c.1, .int .u32 o.c.2, .int .i64 o.d.1, .int .u32 o.d.2, .bool o.h], .int .i64 E]) ∧ Below W.heap.size W w') := fun W hW => dh_obj c d H x y o E ho hE W (h.quiet hW).dw
  have S1 : Hid (∀ W, Below w.heap.size w W → Calls Try.prog 27 #[.pointer (some ⟨b, 0, none⟩), .agg #[.int .i64 x, .int .u32 y]] W fun e w' => e = .returned (.bool B) ∧ Below W.heap.size W w') := fun W hW => has_s x y B (h.quiet hW).st hB'
  have S2 : Hid (∀ W, Below w.heap.size w W → Calls Try.prog 53 #[.pointer (some ⟨c, 0, none⟩), .agg #[.int .i64 x, .int .u32 y]] W fun e w' => e = .returned (.bool B) ∧ Below W.heap.size W w') := fun W hW => dh_has c d H x y B hB' W (h.quiet hW).dw
  have N1 : Hid (∀ W, Below w.heap.size w W → Calls Try.prog 29 #[.pointer (some ⟨b, 0, none⟩)] W fun e w' => e = .returned (.int .i64 n) ∧ Below W.heap.size W w') := fun W hW => len_s n (h.quiet hW).st hn
  have N2 : Hid (∀ W, Below w.heap.size w W → Calls Try.prog 54 #[.pointer (some ⟨c, 0, none⟩)] W fun e w' => e = .returned (.int .i64 n) ∧ Below W.heap.size W w') := fun W hW => dh_len c d H n hn W (h.quiet hW).dw
  have F1 : Hid (∀ W, Below w.heap.size w W → Calls Try.prog 30 #[.pointer (some ⟨b, 0, none⟩)] W fun e w' => e = .returned (.int .i64 m) ∧ Below W.heap.size W w') := fun W hW => left_s m (h.quiet hW).st hm
  have F2 : Hid (∀ W, Below w.heap.size w W → Calls Try.prog 55 #[.pointer (some ⟨c, 0, none⟩)] W fun e w' => e = .returned (.int .i64 m) ∧ Below W.heap.size W w') := fun W hW => dh_left c d H m hm W (h.quiet hW).dw
  obtain ⟨q, hq⟩ : ∃ q, L.length = q := ⟨_, rfl⟩
  have A1 : Hid (∀ W, Below w.heap.size w W → Calls Try.prog 28 #[.pointer (some ⟨b, 0, none⟩)] W fun e w' => ∃ p c', e = .returned (.slice p q c') ∧ RdL w' p c' L ∧ Below W.heap.size W w') := fun W hW => by
    refine (all_s L (h.quiet hW).st hL).mono ?_
    rintro e w' ⟨v, rfl, hrow, _, hb⟩
    obtain ⟨pA, cA, rfl⟩ := own_ref hrow
    exact ⟨pA, cA, by rw [hq], rdl_row hrow, hb⟩
  have A2 : Hid (∀ W, Below w.heap.size w W → Calls Try.prog 57 #[.pointer (some ⟨c, 0, none⟩)] W fun e w' => ∃ p c', e = .returned (.slice p q c') ∧ RdL w' p c' L ∧ Below W.heap.size W w') := fun W hW => by
    have := dh_all c d H W (h.quiet hW).dw
    rw [hL] at this
    refine this.mono ?_
    rintro e w' ⟨p, c', rfl, hrow, hb⟩
    exact ⟨p, c', by rw [hq], rdl_row hrow, hb⟩
  have EQ : Hid (∀ W p c' p2 c2, RdL W p c' L → RdL W p2 c2 L → Calls Try.prog 56 #[.slice p q c', .slice p2 q c2] W fun e w' => e = .returned (.bool true) ∧ Below W.heap.size W w') := fun W p c' p2 c2 h1 h2 => dh_same p p2 c' c2 q L hq (by omega) W h1 h2
  obtain ⟨W, hW⟩ : ∃ W, w.alloc (.cells #[.int .i64 x, .int .u32 y] 34) = W := ⟨_, rfl⟩
  have BW : Hid (Below w.heap.size w W) := by rw [← hW]; exact bel_new _ _
  have X5 : Hid (Bk W w.heap.size 34 #[.int .i64 x, .int .u32 y]) := by rw [← hW]; exact Bk.new _ _ _
  have HW := Lib.hid hW
  have r0 : W.cell? ⟨w.heap.size, 0, none⟩ = some (.int .i64 x) := X5.out.cell 0
  have r1 : W.cell? ⟨w.heap.size, 1, none⟩ = some (.int .u32 y) := X5.out.cell 1
  clear h hL ho hE hB hB' hn hm hq hl256 hW
  go_enter Try.func24, Try.ntmps24
  go_upto_region 1 with fail
  rw [HW.out]
  clear HW
  go_upto_region 2 with (go_at_call 26; refine (O1.out _ BW.out).mono ?_; rintro e w1 ⟨rfl, hb1⟩; have HB1 := Lib.hid hb1; clear hb1)
  obtain ⟨W1, hW1⟩ : ∃ W1, w1.alloc (.cells (obc o) 53) = W1 := ⟨_, rfl⟩
  have BW1 : Hid (Below W.heap.size W W1) := by rw [← hW1]; exact HB1.out.alloc HB1.out.size _
  have X7 : Hid (Bk W1 w1.heap.size 53 (obc o)) := by rw [← hW1]; exact Bk.new _ _ _
  unfold obc at hW1
  rw [hW1]
  clear hW1 r0 r1
  generalize w1.heap.size = B7 at *
  have r0 : W1.cell? ⟨w.heap.size, 0, none⟩ = some (.int .i64 x) := (X5.out.below BW1.out).cell 0
  have r1 : W1.cell? ⟨w.heap.size, 1, none⟩ = some (.int .u32 y) := (X5.out.below BW1.out).cell 1
  go_upto_region 3 with (go_at_call 46; refine (O2.out _ (dh_tr BW.out BW1.out)).mono ?_; rintro e w2 ⟨rfl, hb2⟩; have HB2 := Lib.hid hb2; clear hb2)
  obtain ⟨W2, hW2⟩ : ∃ W2, w2.alloc (.cells (obc o) 86) = W2 := ⟨_, rfl⟩
  have BW2 : Hid (Below W1.heap.size W1 W2) := by rw [← hW2]; exact HB2.out.alloc HB2.out.size _
  have X9 : Hid (Bk W2 w2.heap.size 86 (obc o)) := by rw [← hW2]; exact Bk.new _ _ _
  unfold obc at hW2
  rw [hW2]
  clear hW2 r0 r1
  generalize w2.heap.size = B9 at *
  have BB : Hid (Below w.heap.size w W2) := dh_tr (dh_tr BW.out BW1.out) BW2.out
  have CE : Hid (∀ X, Below W2.heap.size W2 X → (X.cell? ⟨w.heap.size, 0, none⟩ = some (.int .i64 x) ∧ X.cell? ⟨w.heap.size, 1, none⟩ = some (.int .u32 y)) ∧ Tn X B7 o ∧ Tn X B9 o) := fun X hX =>
    ⟨⟨(X5.out.below (dh_tr (dh_tr BW1.out BW2.out) hX)).cell 0, (X5.out.below (dh_tr (dh_tr BW1.out BW2.out) hX)).cell 1⟩, (X7.out.below (dh_tr BW2.out hX)).ob, (X9.out.below hX).ob⟩
  clear X5 X7 X9 HB1 HB2 BW BW1 BW2
  obtain ⟨on, ⟨a1, a2⟩, ⟨b1, b2⟩, ⟨c1, c2⟩, ⟨d1, d2⟩, oh⟩ := o
  unfold Tn at CE
  simp only at CE
  clear O1 O2
  go_region_held3 (fun X => (X.cell? ⟨w.heap.size, 0, none⟩ = some (.int .i64 x) ∧ X.cell? ⟨w.heap.size, 1, none⟩ = some (.int .u32 y)) ∧ (X.cell? ⟨B7, 0, none⟩ = some (.int .i64 on) ∧ X.cell? ⟨B7, 1, none⟩ = some (.int .i64 a1) ∧ X.cell? ⟨B7, 2, none⟩ = some (.int .u32 a2) ∧ X.cell? ⟨B7, 3, none⟩ = some (.int .i64 b1) ∧ X.cell? ⟨B7, 4, none⟩ = some (.int .u32 b2) ∧ X.cell? ⟨B7, 5, none⟩ = some (.int .i64 c1) ∧ X.cell? ⟨B7, 6, none⟩ = some (.int .u32 c2) ∧ X.cell? ⟨B7, 7, none⟩ = some (.int .i64 d1) ∧ X.cell? ⟨B7, 8, none⟩ = some (.int .u32 d2) ∧ X.cell? ⟨B7, 9, none⟩ = some (.bool oh)) ∧ (X.cell? ⟨B9, 0, none⟩ = some (.int .i64 on) ∧ X.cell? ⟨B9, 1, none⟩ = some (.int .i64 a1) ∧ X.cell? ⟨B9, 2, none⟩ = some (.int .u32 a2) ∧ X.cell? ⟨B9, 3, none⟩ = some (.int .i64 b1) ∧ X.cell? ⟨B9, 4, none⟩ = some (.int .u32 b2) ∧ X.cell? ⟨B9, 5, none⟩ = some (.int .i64 c1) ∧ X.cell? ⟨B9, 6, none⟩ = some (.int .u32 c2) ∧ X.cell? ⟨B9, 7, none⟩ = some (.int .i64 d1) ∧ X.cell? ⟨B9, 8, none⟩ = some (.int .u32 d2) ∧ X.cell? ⟨B9, 9, none⟩ = some (.bool oh))) (first | (with_reducible assumption) | exact CE.out _ (bel_dr W2)) (first
    | (go_at_call 27; with_reducible refine (S1.out _ (dh_tr BB.out (bel_dr W2))).mono ?_; rintro e' y1 ⟨rfl, hb⟩; have Y1 := Lib.hid (dh_tr (bel_dr W2) hb); have hz1 := CE.out _ Y1.out; clear hb)
    | (go_at_call 53; with_reducible refine (S2.out _ (dh_tr BB.out Y1.out)).mono ?_; rintro e' y2 ⟨rfl, hb⟩; have Y2 := Lib.hid (dh_tr Y1.out hb); have hz2 := CE.out _ Y2.out; clear hb)
    | (go_at_call 29; with_reducible refine (N1.out _ (dh_tr BB.out Y2.out)).mono ?_; rintro e' y3 ⟨rfl, hb⟩; have Y3 := Lib.hid (dh_tr Y2.out hb); have hz3 := CE.out _ Y3.out; clear hb)
    | (go_at_call 54; with_reducible refine (N2.out _ (dh_tr BB.out Y3.out)).mono ?_; rintro e' y4 ⟨rfl, hb⟩; have Y4 := Lib.hid (dh_tr Y3.out hb); have hz4 := CE.out _ Y4.out; clear hb)
    | (go_at_call 30; with_reducible refine (F1.out _ (dh_tr BB.out Y4.out)).mono ?_; rintro e' y5 ⟨rfl, hb⟩; have Y5 := Lib.hid (dh_tr Y4.out hb); have hz5 := CE.out _ Y5.out; clear hb)
    | (go_at_call 55; with_reducible refine (F2.out _ (dh_tr BB.out Y5.out)).mono ?_; rintro e' y6 ⟨rfl, hb⟩; have Y6 := Lib.hid (dh_tr Y5.out hb); have hz6 := CE.out _ Y6.out; clear hb)
    | (go_at_call 28; with_reducible refine (A1.out _ (dh_tr BB.out Y6.out)).mono ?_; rintro e' y7 ⟨p1, c1', rfl, hr, hb⟩; have R7 := Lib.hid hr; have Y7 := Lib.hid (dh_tr Y6.out hb); have hz7 := CE.out _ Y7.out; clear hb hr)
    | (go_at_call 57; with_reducible refine (A2.out _ (dh_tr BB.out Y7.out)).mono ?_; rintro e' y8 ⟨p2, c2', rfl, hr, hb⟩; have R8 := Lib.hid (And.intro (R7.out.below hb) hr); have Y8 := Lib.hid (dh_tr Y7.out hb); have hz8 := CE.out _ Y8.out; clear hb hr)
    | (go_at_call 56; with_reducible refine (EQ.out _ _ _ _ _ R8.out.1 R8.out.2).mono ?_; rintro e' y9 ⟨rfl, hb⟩; have Y9 := Lib.hid (dh_tr Y8.out hb); have hz9 := CE.out _ Y9.out; clear hb))
  go_wp2
  go_ret
  exact ⟨rfl, dh_tr BB.out Y9.out⟩
end Go.Proofs.Ytfnhkapbfgofkaa
