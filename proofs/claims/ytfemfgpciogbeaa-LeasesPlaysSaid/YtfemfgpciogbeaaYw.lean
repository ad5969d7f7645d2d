/- The examples of the chapter hold: works returns true. -/
import Derived.Test.YtfemfgpciogbeaaYv
namespace Go.Proofs.Ytfemfgpciogbeaa
open Go.RowKit

def Q0 : Dk := dfresh 2 1
def Q1 : Dk := Q0.grant 10 5
def Q2 : Dk := Q1.grant 1 5
def Q3 : Dk := Q2.grant 3 5
def Q4 : Dk := Q3.renew 3 0 1 100 14
def Q5 : Dk := Q4.renew 3 1 1 1 6
def Q6 : Dk := Q5.ret 3 1 1
def Q7 : Dk := Q6.ret 3 1 1
def Q8 : Dk := Q7.grant 5 20
def Q9 : Dk := Q8.renew 3 1 1 5 20
def QX : Dk := Q9.renew 3 0 1 1048576 1099511627776
/-- The desk of the examples, and the boxes of a and b. -/
structure WB (w0 w : World) (b k a : Nat) (D : Dk) (A B : Nat) : Prop where
  s : DSt w0 w b k a D
  oa : Bk w A 33 #[.int .i64 3, .int .i64 0, .int .u32 1]
  ob : Bk w B 33 #[.int .i64 3, .int .i64 1, .int .u32 1]
section
variable {w0 w w' : World} {b k a A B : Nat} {D U : Dk}
theorem WB.quiet (h : WB w0 w b k a D A B) (q : Below w.heap.size w w') : WB w0 w' b k a D A B := ⟨h.s.quiet q, h.oa.below q, h.ob.below q⟩
theorem WB.step (h : WB w0 w b k a D A B) (hs : DSt w0 w' b k a U) (q : Kept (DFoot b k a) w w') : WB w0 w' b k a U A B := ⟨hs, h.s.box h.oa q, h.s.box h.ob q⟩
theorem WB.cells (h : WB w0 w b k a D A B) : (w.cell? ⟨A, 0, none⟩ = some (.int .i64 3) ∧ w.cell? ⟨A, 1, none⟩ = some (.int .i64 0) ∧ w.cell? ⟨A, 2, none⟩ = some (.int .u32 1)) ∧ (w.cell? ⟨B, 0, none⟩ = some (.int .i64 3) ∧ w.cell? ⟨B, 1, none⟩ = some (.int .i64 1) ∧ w.cell? ⟨B, 2, none⟩ = some (.int .u32 1)) := ⟨cells3 h.oa, cells3 h.ob⟩
theorem WB.lts (h : WB w0 w b k a D A B) : A < w.heap.size ∧ B < w.heap.size := ⟨h.oa.lt, h.ob.lt⟩
theorem grant_b (x now K I G E : Int) (h : WB w0 w b k a D A B) (e1 : (D.gK x now : Int) = K) (e2 : (D.gI x now : Int) = I) (e3 : (D.gG x now : Int) = G) (e4 : D.gE x now = E) : Calls Try.prog 13 #[.pointer (some ⟨b, 0, none⟩), .int .i64 x, .int .i64 now] w fun e w' =>
    e = .returned (.tuple #[.agg #[.int .i64 K, .int .i64 I, .int .u32 G], .int .i64 E]) ∧ Hid (WB w0 w' b k a (D.grant x now) A B) :=
  (grant_s x now K I G E h.s e1 e2 e3 e4).mono fun _ _ ⟨h1, h2, h3⟩ => ⟨h1, h.step h2.out h3.out⟩
theorem renew_b (x y z : Int) (t now E : Int) (h : WB w0 w b k a D A B) (hr : RgO x y z) (e : D.rE x y z t now = E) : Calls Try.prog 15 #[.pointer (some ⟨b, 0, none⟩), .agg #[.int .i64 x, .int .i64 y, .int .u32 z], .int .i64 t, .int .i64 now] w fun e w' =>
    e = .returned (.int .i64 E) ∧ Hid (WB w0 w' b k a (D.renew x y z t now) A B) :=
  (renew_s x y z t now E h.s hr e).mono fun _ _ ⟨h1, h2, h3⟩ => ⟨h1, h.step h2.out h3.out⟩
theorem ret_b (x y z E : Int) (h : WB w0 w b k a D A B) (hr : RgO x y z) (e : D.chk x y z = E) : Calls Try.prog 17 #[.pointer (some ⟨b, 0, none⟩), .agg #[.int .i64 x, .int .i64 y, .int .u32 z]] w fun e w' =>
    e = .returned (.int .i64 E) ∧ Hid (WB w0 w' b k a (D.ret x y z) A B) :=
  (ret_s x y z E h.s hr e).mono fun _ _ ⟨h1, h2, h3⟩ => ⟨h1, h.step h2.out h3.out⟩
end

theorem bal (w : World) (o : Obj) : Below w.heap.size w (w.alloc o) := (Below.refl _ _).alloc (Nat.le_refl _) _
set_option maxHeartbeats 4000000 in
set_option maxRecDepth 100000 in
theorem works_ok (w : World) : Calls Try.prog 10 #[] w fun e w' => e = .returned (.bool true) ∧ Below w.heap.size w w' := by
  have rg : ∀ k i g : Nat, k ≤ 3 → i ≤ 64 → g ≤ 4294967295 → RgO k i g := fun k i g h1 h2 h3 => ⟨by omega, by omega, by omega, by omega, by omega, by omega⟩
  have r01 : Hid (RgO 3 0 1) := rg 3 0 1 (by decide) (by decide) (by decide)
  have r11 : Hid (RgO 3 1 1) := rg 3 1 1 (by decide) (by decide) (by decide)
  clear rg
  go_enter Try.func10, Try.ntmps10
  go_wp2_with fail
  refine (dnew_ok 2 1 _ (by decide) (by decide) (by decide) (by decide)).mono ?_
  rintro e w1 ⟨b, rfl, hf⟩
  obtain ⟨k, a, hs⟩ := DSt.new hf
  have S : Hid (DSt w w1 b k a Q0) := hs
  clear hf hs
  go_wp2_with fail
  refine (grant_s 10 5 3 0 1 0 S.out rfl rfl rfl rfl).mono ?_
  rintro e w2 ⟨rfl, S1, K1⟩
  have S2 : Hid (DSt w (w2.alloc (.cells #[.int .i64 3, .int .i64 0, .int .u32 1] 33)) b k a Q1) := S1.out.quiet ((Below.refl _ _).alloc (Nat.le_refl _) _)
  have OA := Lib.hid (Bk.new w2 33 #[.int .i64 3, .int .i64 0, .int .u32 1])
  clear S S1 K1
  go_wp2_with fail
  generalize w2.heap.size = A at *
  generalize w2.alloc (.cells #[.int .i64 3, .int .i64 0, .int .u32 1] 33) = w3 at *
  refine (grant_s 1 5 3 1 1 0 S2.out rfl rfl rfl rfl).mono ?_
  rintro e w4 ⟨rfl, S1, K1⟩
  have PA := Lib.hid (S2.out.box OA.out K1.out)
  clear OA
  have S3 : Hid (WB w (w4.alloc (.cells #[.int .i64 3, .int .i64 1, .int .u32 1] 33)) b k a Q2 A w4.heap.size) := ⟨S1.out.quiet ((Below.refl _ _).alloc (Nat.le_refl _) _), PA.out.up _, Bk.new w4 _ _⟩
  clear PA S1 K1 S2
  go_wp2_with fail
  generalize w4.heap.size = B at *
  generalize w4.alloc (.cells #[.int .i64 3, .int .i64 1, .int .u32 1] 33) = w5 at *
  refine (grant_b 3 5 0 0 0 4 S3.out rfl rfl rfl rfl).mono ?_
  rintro e w6 ⟨rfl, S4⟩
  have S5 : Hid (WB w (w6.alloc (.cells #[.int .i64 0, .int .i64 0, .int .u32 0] 33)) b k a Q3 A B) := S4.out.quiet ((Below.refl _ _).alloc (Nat.le_refl _) _)
  clear S3 S4
  go_wp2_with fail
  generalize w6.alloc (.cells #[.int .i64 0, .int .i64 0, .int .u32 0] 33) = w7 at *
  have FC : Hid (∀ W, Below w7.heap.size w7 W → ((W.cell? ⟨A, 0, none⟩ = some (.int .i64 3) ∧ W.cell? ⟨A, 1, none⟩ = some (.int .i64 0) ∧ W.cell? ⟨A, 2, none⟩ = some (.int .u32 1)) ∧ (W.cell? ⟨B, 0, none⟩ = some (.int .i64 3) ∧ W.cell? ⟨B, 1, none⟩ = some (.int .i64 1) ∧ W.cell? ⟨B, 2, none⟩ = some (.int .u32 1)))) := fun W hW => (S5.out.quiet hW).cells
  have LF : Hid (∀ (i g : Int) W, Calls Try.prog 35 #[.int .i64 i, .int .u32 g] W fun e w' => e = .returned (.agg #[.int .i64 3, .int .i64 i, .int .u32 g]) ∧ Below W.heap.size W w') := llease_ok
  have H0 : Hid (Below w7.heap.size w7 w7.drew) := bel_drew (Below.refl _ _)
  have hz0 := FC.out _ (Below.refl _ w7)
  go_region_held3 (fun W => (W.cell? ⟨A, 0, none⟩ = some (.int .i64 3) ∧ W.cell? ⟨A, 1, none⟩ = some (.int .i64 0) ∧ W.cell? ⟨A, 2, none⟩ = some (.int .u32 1)) ∧ (W.cell? ⟨B, 0, none⟩ = some (.int .i64 3) ∧ W.cell? ⟨B, 1, none⟩ = some (.int .i64 1) ∧ W.cell? ⟨B, 2, none⟩ = some (.int .u32 1))) (first | (with_reducible exact hz2) | (with_reducible exact hz1) | (exact hz0)) (first
    | (go_at_call 35; (with_reducible refine (LF.out 1 1 _).mono ?_); rintro e v2 ⟨rfl, hb⟩; have H2 := Lib.hid (H1.out.trans (hb.mono H1.out.size)); have hz2 := FC.out v2 H2.out; clear hb)
    | (go_at_call 35; (with_reducible refine (LF.out 0 1 _).mono ?_); rintro e v1 ⟨rfl, hb⟩; have H1 := Lib.hid (H0.out.trans (hb.mono H0.out.size)); have hz1 := FC.out v1 H1.out; clear hb))
  have S : Hid (WB w v2 b k a Q3 A B) := S5.out.quiet H2.out
  clear hz0 hz1 hz2 FC H0 H1 H2 S5
  obtain ⟨⟨a0, a1, a2⟩, _⟩ := S.out.cells
  have al := S.out.lts.1
  go_wp2_with fail
  clear a0 a1 a2 al
  refine (until_s 3 0 1 15 0 S.out.s r01.out rfl rfl).mono ?_
  rintro e v3 ⟨rfl, S1, B1⟩
  have T : Hid (WB w v3 b k a Q3 A B) := S.out.quiet B1.out
  clear S S1 B1
  obtain ⟨⟨a0, a1, a2⟩, _⟩ := T.out.cells
  have al := T.out.lts.1
  go_wp2_with fail
  clear a0 a1 a2 al
  refine (over_s 3 0 1 14 0 false T.out.s r01.out rfl rfl).mono ?_
  rintro e v4 ⟨rfl, S1, B1⟩
  have S : Hid (WB w v4 b k a Q3 A B) := T.out.quiet B1.out
  clear T S1 B1
  obtain ⟨⟨a0, a1, a2⟩, _⟩ := S.out.cells
  have al := S.out.lts.1
  go_wp2_with fail
  clear a0 a1 a2 al
  refine (over_s 3 0 1 15 0 true S.out.s r01.out rfl rfl).mono ?_
  rintro e v5 ⟨rfl, S1, B1⟩
  have T : Hid (WB w v5 b k a Q3 A B) := S.out.quiet B1.out
  clear S S1 B1
  obtain ⟨⟨a0, a1, a2⟩, _⟩ := T.out.cells
  have al := T.out.lts.1
  go_wp2_with fail
  clear a0 a1 a2 al
  refine (renew_b 3 0 1 100 14 0 T.out r01.out rfl).mono ?_
  rintro e v6 ⟨rfl, S1⟩
  have S : Hid (WB w v6 b k a Q4 A B) := S1
  clear T S1
  obtain ⟨_, b0, b1, b2⟩ := S.out.cells
  have bl := S.out.lts.2
  go_wp2_with fail
  clear b0 b1 b2 bl
  refine (renew_b 3 1 1 1 6 8 S.out r11.out rfl).mono ?_
  rintro e v7 ⟨rfl, S1⟩
  have T : Hid (WB w v7 b k a Q5 A B) := S1
  clear S S1
  obtain ⟨_, b0, b1, b2⟩ := T.out.cells
  have bl := T.out.lts.2
  go_wp2_with fail
  clear b0 b1 b2 bl
  refine (ret_b 3 1 1 0 T.out r11.out rfl).mono ?_
  rintro e v8 ⟨rfl, S1⟩
  have S : Hid (WB w v8 b k a Q6 A B) := S1
  clear T S1
  obtain ⟨_, b0, b1, b2⟩ := S.out.cells
  have bl := S.out.lts.2
  go_wp2_with fail
  clear b0 b1 b2 bl
  refine (ret_b 3 1 1 7 S.out r11.out rfl).mono ?_
  rintro e v9 ⟨rfl, S1⟩
  have T : Hid (WB w v9 b k a Q7 A B) := S1
  clear S S1
  go_wp2_with fail
  refine (grant_b 5 20 3 1 2 0 T.out rfl rfl rfl rfl).mono ?_
  rintro e w10 ⟨rfl, S1⟩
  have S : Hid (WB w (w10.alloc (.cells #[.int .i64 3, .int .i64 1, .int .u32 2] 33)) b k a Q8 A B) := S1.out.quiet ((Below.refl _ _).alloc (Nat.le_refl _) _)
  have OC := Lib.hid (Bk.new w10 33 #[.int .i64 3, .int .i64 1, .int .u32 2])
  clear T S1
  go_wp2_with fail
  generalize w10.heap.size = C at *
  generalize w10.alloc (.cells #[.int .i64 3, .int .i64 1, .int .u32 2] 33) = w11 at *
  have TC : Hid (∀ W U, WB w W b k a U A B → Bk W C 33 #[.int .i64 3, .int .i64 1, .int .u32 2] → ((W.cell? ⟨A, 0, none⟩ = some (.int .i64 3) ∧ W.cell? ⟨A, 1, none⟩ = some (.int .i64 0) ∧ W.cell? ⟨A, 2, none⟩ = some (.int .u32 1)) ∧ (W.cell? ⟨B, 0, none⟩ = some (.int .i64 3) ∧ W.cell? ⟨B, 1, none⟩ = some (.int .i64 1) ∧ W.cell? ⟨B, 2, none⟩ = some (.int .u32 1)) ∧ (W.cell? ⟨C, 0, none⟩ = some (.int .i64 3) ∧ W.cell? ⟨C, 1, none⟩ = some (.int .i64 1) ∧ W.cell? ⟨C, 2, none⟩ = some (.int .u32 2)))) := fun W U h1 h2 => ⟨h1.cells.1, h1.cells.2, cells3 h2⟩
  have C1 : Hid (∀ W, WB w W b k a Q8 A B → Bk W C 33 #[.int .i64 3, .int .i64 1, .int .u32 2] → Calls Try.prog 15 #[.pointer (some ⟨b, 0, none⟩), .agg #[.int .i64 3, .int .i64 1, .int .u32 1], .int .i64 5, .int .i64 20] W fun e w' => e = .returned (.int .i64 7) ∧ WB w w' b k a Q9 A B ∧ Bk w' C 33 #[.int .i64 3, .int .i64 1, .int .u32 2]) := fun W h hC =>
    (renew_s 3 1 1 5 20 7 h.s r11.out rfl).mono fun _ _ ⟨h1, h2, h3⟩ => ⟨h1, h.step h2.out h3.out, h.s.box hC h3.out⟩
  have C2 : Hid (∀ W, WB w W b k a Q9 A B → Bk W C 33 #[.int .i64 3, .int .i64 1, .int .u32 2] → Calls Try.prog 15 #[.pointer (some ⟨b, 0, none⟩), .agg #[.int .i64 3, .int .i64 0, .int .u32 1], .int .i64 1048576, .int .i64 1099511627776] W fun e w' => e = .returned (.int .i64 8) ∧ WB w w' b k a QX A B ∧ Bk w' C 33 #[.int .i64 3, .int .i64 1, .int .u32 2]) := fun W h hC =>
    (renew_s 3 0 1 1048576 1099511627776 8 h.s r01.out rfl).mono fun _ _ ⟨h1, h2, h3⟩ => ⟨h1, h.step h2.out h3.out, h.s.box hC h3.out⟩
  have AL : Hid (∀ W, WB w W b k a QX A B → Bk W C 33 #[.int .i64 3, .int .i64 1, .int .u32 2] → Calls Try.prog 28 #[.pointer (some ⟨b, 0, none⟩)] W fun e w' => ∃ p c, e = .returned (.slice p 2 c) ∧ RdO w' (.slice p 2 c) [⟨3, 0, 1⟩, ⟨3, 1, 2⟩] ∧ WB w w' b k a QX A B ∧ Bk w' C 33 #[.int .i64 3, .int .i64 1, .int .u32 2] ∧ Below W.heap.size W w') := fun W h hC =>
    (all_s [⟨3, 0, 1⟩, ⟨3, 1, 2⟩] h.s rfl).mono fun _ _ ⟨p, c, h1, h2, h3, h4⟩ => ⟨p, c, h1, h2.out.rd, h.quiet h4.out, hC.below h4.out, h4.out⟩
  have EQ : Hid (∀ W p c g, RdO W (.slice p 2 c) [⟨3, 0, 1⟩, ⟨3, 1, 2⟩] → Bk W g 33 #[.int .i64 3, .int .i64 0, .int .u32 1, .int .i64 3, .int .i64 1, .int .u32 2] → WB w W b k a QX A B → Bk W C 33 #[.int .i64 3, .int .i64 1, .int .u32 2] → Calls Try.prog 27 #[.slice p 2 c, .slice (some ⟨g, 0, none⟩) 2 2] W fun e w' => e = .returned (.bool true) ∧ WB w w' b k a QX A B ∧ Bk w' C 33 #[.int .i64 3, .int .i64 1, .int .u32 2]) := fun W p c g hp hg h hC =>
    (equal_yes _ _ _ _ _ _ [⟨3, 0, 1⟩, ⟨3, 1, 2⟩] W hp (RdO.lit (l := [⟨3, 0, 1⟩, ⟨3, 1, 2⟩]) hg rfl (by decide))).mono fun _ _ ⟨h1, h2⟩ => ⟨h1, h.quiet h2, hC.below h2⟩
  have hz0 := TC.out _ _ S.out OC.out
  have S0 : Hid (WB w w11.drew b k a Q8 A B) := S.out.quiet (bel_drew (Below.refl _ _))
  have D0 : Hid (Bk w11.drew C 33 #[.int .i64 3, .int .i64 1, .int .u32 2]) := OC.out.below (bel_drew (Below.refl _ _))
  clear S OC
  try simp only [List.append_eq, List.cons_append, List.nil_append]
  go_region_held3 (fun W => (W.cell? ⟨A, 0, none⟩ = some (.int .i64 3) ∧ W.cell? ⟨A, 1, none⟩ = some (.int .i64 0) ∧ W.cell? ⟨A, 2, none⟩ = some (.int .u32 1)) ∧ (W.cell? ⟨B, 0, none⟩ = some (.int .i64 3) ∧ W.cell? ⟨B, 1, none⟩ = some (.int .i64 1) ∧ W.cell? ⟨B, 2, none⟩ = some (.int .u32 1)) ∧ (W.cell? ⟨C, 0, none⟩ = some (.int .i64 3) ∧ W.cell? ⟨C, 1, none⟩ = some (.int .i64 1) ∧ W.cell? ⟨C, 2, none⟩ = some (.int .u32 2))) (first | (with_reducible exact hz6) | (with_reducible exact hz8) | (with_reducible exact hz7 _) | (with_reducible exact hz5 _) | (with_reducible exact hz4) | (with_reducible exact hz3) | (with_reducible exact hz2) | (with_reducible exact hz1) | (exact hz0)) (first
    | (go_at_call 27; (refine (EQ.out _ _ _ _ (R4.out.below ((Below.refl _ _).alloc (Nat.le_refl _) _)) (Bk.new _ _ _) (S4.out.quiet ((Below.refl _ _).alloc (Nat.le_refl _) _)) (D4.out.up _)).mono ?_); rintro e u6 ⟨rfl, hs, hc⟩; have S6 := Lib.hid hs; have hz6 := TC.out u6 _ hs hc; clear hs hc)
    | (go_at_call 27; (refine (EQ.out _ _ _ _ R5.out L5.out S5.out D5.out).mono ?_); rintro e u6 ⟨rfl, hs, hc⟩; have S6 := Lib.hid hs; have hz6 := TC.out u6 _ hs hc; clear hs hc)
    | (go_at_call 28; (with_reducible refine (AL.out _ (S3.out.quiet (bal _ _)) (D3.out.up _)).mono ?_); rintro e u5 ⟨p, c, rfl, hr, hs, hc, hb⟩; have R5 := Lib.hid hr; have S5 := Lib.hid hs; have D5 := Lib.hid hc; have L5 := Lib.hid ((Bk.new u3 _ _).below hb); have hz8 := TC.out u5 _ hs hc; clear hr hs hc hb)
    | (go_at_call 28; (with_reducible refine (AL.out _ S3.out D3.out).mono ?_); rintro e u4 ⟨p, c, rfl, hr, hs, hc, hb⟩; have R4 := Lib.hid hr; have S4 := Lib.hid hs; have D4 := Lib.hid hc; have hz4 := TC.out u4 _ hs hc; have hz5 := fun x => TC.out (u4.alloc x) _ (hs.quiet (bal _ _)) (hc.up x); clear hr hs hc hb)
    | (go_at_call 15; (with_reducible refine (C2.out _ S2.out D2.out).mono ?_); rintro e u3 ⟨rfl, hs, hc⟩; have S3 := Lib.hid hs; have D3 := Lib.hid hc; have hz3 := TC.out u3 _ hs hc; have hz7 := fun x => TC.out (u3.alloc x) _ (hs.quiet (bal _ _)) (hc.up x); clear hs hc)
    | (go_at_call 15; (with_reducible refine (C1.out _ S1.out D1.out).mono ?_); rintro e u2 ⟨rfl, hs, hc⟩; have S2 := Lib.hid hs; have D2 := Lib.hid hc; have hz2 := TC.out u2 _ hs hc; clear hs hc)
    | (go_at_call 35; (with_reducible refine (LF.out 1 2 _).mono ?_); rintro e u1 ⟨rfl, hb⟩; have S1 := Lib.hid (S0.out.quiet hb); have D1 := Lib.hid (D0.out.below hb); have hz1 := TC.out u1 _ S1.out D1.out; clear hb))
  all_goals
    have HB := Lib.hid S6.out.s.bel
    clear hz0 hz1 hz2 hz3 hz6 hz7
    go_wp2
    go_ret
    exact ⟨rfl, HB.out⟩
end Go.Proofs.Ytfemfgpciogbeaa
