/- The contract of the examples that every statement about package bits ends with: they hold. -/
import Derived.Test.YtaenemdclmnnaaaDoorBi
namespace Go.Proofs.YtaenemdclmnnaaaDoor
open Go.RowKit

def AllS (l : List Nat) (w : World) (e : Ending) (w' : World) : Prop :=
  ∃ v, e = .returned v ∧ Sl w' v l ∧ (∀ a n c, v = .slice (some a) n c → w.heap.size ≤ a.block) ∧ Below w.heap.size w w'
theorem all_s (b g m : Nat) (f : Nat → Bool) (l : List Nat) (w : World) (h : SetW w b g m f) (hT : Tab w) (hl : lst f m = l) : Calls Tryd.prog 29 #[.pointer (some ⟨b, 0, none⟩)] w (AllS l w) := by
  subst hl
  refine (all_ok b g m f w h hT).mono ?_
  rintro e w' ⟨v, rfl, h1, _, h3⟩
  have hlen : (lst f m).length ≤ 4096 := by have := lst_len f m; have := h.hi; omega
  refine ⟨v, rfl, Sl.of_own h1 hlen, ?_, h3⟩
  rintro a n c rfl
  rcases h1.2 with ⟨e, _⟩ | ⟨g, cap, cur, e, h4, _⟩
  · cases e
  · injection e with e; injection e with e; subst e; exact h4
theorem next_s (b g m : Nat) (f : Nat → Bool) (fr : Int) (x : Nat) (l : List Nat) (hfr : fr ≤ 9223372036854775807) (w : World) (h : SetW w b g m f) (hT : Tab w) (hl : from_ f m fr = x :: l) : Calls Tryd.prog 26 #[.pointer (some ⟨b, 0, none⟩), .int .i64 fr] w fun e w' => e = .returned (.tuple #[.int .i64 ((x : Nat) : Int), .bool true]) ∧ Below w.heap.size w w' := by
  refine (next_ok b g m f fr hfr w h hT).mono ?_
  rintro e w' ⟨h1, h2⟩
  rw [hl] at h1
  exact ⟨h1, h2⟩

theorem Sl.lit (W : World) (l : List Nat) (hl : l.length ≤ 4096) : Sl (W.alloc (.cells (ints l).toArray 3)) (.slice (some ⟨W.heap.size, 0, none⟩) l.length l.length) l := by
  refine ⟨_, _, rfl, hl, fun _ => ⟨W.heap.size, 0, rfl, by simp, fun j hj => ?_⟩⟩
  have hb := Bk.new W 3 (ints l).toArray
  rw [Nat.zero_add, hb.cell]
  simp [ints, hj]

structure Thr (w0 w : World) (b1 g1 b2 g2 b3 g3 : Nat) (f h : Nat → Bool) : Prop where
  s : SetW w b1 g1 130 f
  t : SetW w b2 g2 130 h
  u : SetW w b3 g3 131 (fun _ => false)
  tab : Tab w
  bel : Below w0.heap.size w0 w
  l1 : w0.heap.size ≤ g1
  l2 : w0.heap.size ≤ g2
  x0 : (0 : Nat) < w0.heap.size
  x1 : g1 < b2
  x2 : g1 < g2
  x3 : g1 < b3
  x4 : g1 < g3
  x5 : b1 < g2
  x6 : g2 < b3
  x7 : g2 < g3
section
variable {w0 w w' : World} {b1 g1 b2 g2 b3 g3 : Nat} {f h f' h' : Nat → Bool}
theorem Thr.quiet (a : Thr w0 w b1 g1 b2 g2 b3 g3 f h) (k : Below w.heap.size w w') : Thr w0 w' b1 g1 b2 g2 b3 g3 f h :=
  ⟨a.s.below k, a.t.below k, a.u.below k, a.tab.below k, a.bel.trans (k.mono a.bel.size), a.l1, a.l2, a.x0, a.x1, a.x2, a.x3, a.x4, a.x5, a.x6, a.x7⟩
theorem Thr.ks (a : Thr w0 w b1 g1 b2 g2 b3 g3 f h) (k : Kept (· = g1) w w') (hs : SetW w' b1 g1 130 f') : Thr w0 w' b1 g1 b2 g2 b3 g3 f' h :=
  ⟨hs, a.t.kept k (by have := a.x1; omega) (by have := a.x2; omega), a.u.kept k (by have := a.x3; omega) (by have := a.x4; omega), a.tab.same (k.block _ a.tab.lt (by have := a.x0; have := a.l1; omega)), a.bel.trans (kept_below k a.bel.size a.l1), a.l1, a.l2, a.x0, a.x1, a.x2, a.x3, a.x4, a.x5, a.x6, a.x7⟩
theorem Thr.kt (a : Thr w0 w b1 g1 b2 g2 b3 g3 f h) (k : Kept (· = g2) w w') (ht : SetW w' b2 g2 130 h') : Thr w0 w' b1 g1 b2 g2 b3 g3 f h' :=
  ⟨a.s.kept k (by have := a.x5; omega) (by have := a.x2; omega), ht, a.u.kept k (by have := a.x6; omega) (by have := a.x7; omega), a.tab.same (k.block _ a.tab.lt (by have := a.x0; have := a.l2; omega)), a.bel.trans (kept_below k a.bel.size a.l2), a.l1, a.l2, a.x0, a.x1, a.x2, a.x3, a.x4, a.x5, a.x6, a.x7⟩
end

/-- The example's numbers, and what Add answers. -/
def exI (k : Nat) : Int := [0, 129, 64, 64, 130, -1].getD k 0
def exW (k : Nat) : Int := [0, 0, 0, 0, 3, 3].getD k 0
def exF : Nat → Nat → Bool
  | 0 => fun _ => false
  | k + 1 => setF (exF k) 130 (exI k) true
theorem exE : ∀ k, k < 6 → addE 130 (exI k) = exW k := by decide
def exF2 : Nat → Bool := setF (exF 6) 130 64 false
def exH : Nat → Bool := setF (setF (fun _ => false) 130 5 true) 130 129 true
theorem ex1 : lst (exF 6) 130 = [0, 64, 129] := by decide +kernel
theorem ex2 : from_ (exF 6) 130 65 = [129] := by decide +kernel
theorem ex3 : lst (un exF2 exH) 130 = [0, 5, 129] := by decide +kernel
theorem ex4 : lst (mi (un exF2 exH) exH) 130 = [0] := by decide +kernel

theorem Bk.through {g B : Nat} {t : TypeId} {cs : Array Value} {W0 W W' : World} (hb : Bk W0 B t cs) (e : W.heap = W0.heap) (k : Kept (· = g) W W') (hne : B ≠ g) : Bk W' B t cs := by
  have hb' : Bk W B t cs := by unfold Bk; rw [e]; exact hb
  exact hb'.kept k hne
theorem Below.draws {W W' : World} (e1 : W'.os = W.os) (e2 : W'.tape = W.tape) (e3 : W'.output = W.output) (e4 : W'.heap = W.heap) (B : Nat) : Below B W W' := ⟨e1, e2, e3, by rw [e4]; exact Nat.le_refl _, fun _ _ => by rw [e4]⟩

set_option maxRecDepth 100000 in
set_option maxHeartbeats 4000000 in
theorem works_ok (w : World) (hT : Tab w) :
    Calls Tryd.prog 10 #[] w fun e w' => e = .returned (.bool true) ∧ Below w.heap.size w w' := by
  have HT := Lib.hid hT
  clear hT
  go_enter Tryd.func10, Tryd.ntmps10
  go_wp2_with fail
  refine (new_ok 130 _ (by decide) (by decide)).mono ?_
  rintro e w1 ⟨b1, g1, p1, p2, rfl, hs1, hb1⟩
  have S1 := Lib.hid hs1
  have B1 := Lib.hid hb1
  have P1 := Lib.hid (And.intro p1 p2)
  clear hs1 hb1 p1 p2
  go_wp2_with fail
  refine (new_ok 130 _ (by decide) (by decide)).mono ?_
  rintro e w2 ⟨b2, g2, p1, p2, rfl, hs2, hb2⟩
  have S2 := Lib.hid hs2
  have B2 := Lib.hid hb2
  have P2 := Lib.hid (And.intro p1 p2)
  clear hs2 hb2 p1 p2
  go_wp2_with fail
  refine (new_ok 131 _ (by decide) (by decide)).mono ?_
  rintro e w3 ⟨b3, g3, p1, p2, rfl, hs3, hb3⟩
  have TH : Hid (Thr w w3 b1 g1 b2 g2 b3 g3 (exF 0) (fun _ => false)) := by
    have q1 := S1.out.bt; have q2 := S1.out.gt; have q3 := S2.out.bt; have q4 := S2.out.gt; have q5 := P1.out; have q6 := P2.out; have q7 := HT.out.lt
    have q8 := B1.out.size; have q9 := B2.out.size
    exact ⟨(S1.out.below B2.out).below hb3, S2.out.below hb3, hs3, ((HT.out.below B1.out).below B2.out).below hb3, bel2 (bel2 B1.out B2.out) hb3, q5.2, by omega, q7, by omega, by omega, by omega, by omega, by omega, by omega, by omega⟩
  clear hs3 hb3 p1 p2 S1 S2 B1 B2 P1 P2
  go_wp2
  obtain ⟨A, hA⟩ : ∃ A, w3.heap.size = A := ⟨_, rfl⟩
  have hbk := Bk.new w3 60 #[.int .i64 0, .int .i64 0, .int .i64 129, .int .i64 0, .int .i64 64, .int .i64 0, .int .i64 64, .int .i64 0, .int .i64 130, .int .i64 3, .int .i64 (-1), .int .i64 3]
  rw [hA] at hbk ⊢
  have TH4 := Lib.hid (TH.out.quiet ((Below.refl _ w3).alloc (Nat.le_refl _) (.cells #[.int .i64 0, .int .i64 0, .int .i64 129, .int .i64 0, .int .i64 64, .int .i64 0, .int .i64 64, .int .i64 0, .int .i64 130, .int .i64 3, .int .i64 (-1), .int .i64 3] 60)))
  have hga : g1 ≠ A := by have := TH.out.s.gt; omega
  have HK := Lib.hid hbk
  have HGA := Lib.hid hga
  clear TH hbk hA hga
  generalize w3.alloc (.cells #[.int .i64 0, .int .i64 0, .int .i64 129, .int .i64 0, .int .i64 64, .int .i64 0, .int .i64 64, .int .i64 0, .int .i64 130, .int .i64 3, .int .i64 (-1), .int .i64 3] 60) = w4 at *
  go_loopw [44] (fun i wr => ∃ k : Nat, k ≤ 6 ∧ i = .int .i64 k ∧ Hid (Thr w wr b1 g1 b2 g2 b3 g3 (exF k) (fun _ => false)) ∧ Hid (Bk wr A 60 #[.int .i64 0, .int .i64 0, .int .i64 129, .int .i64 0, .int .i64 64, .int .i64 0, .int .i64 64, .int .i64 0, .int .i64 130, .int .i64 3, .int .i64 (-1), .int .i64 3])) (fun i _ => 6 - (intOf i).toNat)
  case atStart => exact ⟨0, by decide, rfl, TH4.out, HK.out⟩
  case round =>
    obtain ⟨k, hk, rfl, HTH, HBK⟩ := hrel
    by_cases hlt : k < 6
    · have hc0 : wr.cell? ⟨A, k * 2, none⟩ = some (.int .i64 (exI k)) := by
        rw [HBK.out.cell]
        match k, hlt with
        | 0, _ => rfl
        | 1, _ => rfl
        | 2, _ => rfl
        | 3, _ => rfl
        | 4, _ => rfl
        | 5, _ => rfl
      have hc1 : wr.cell? ⟨A, k * 2 + 1, none⟩ = some (.int .i64 (exW k)) := by
        rw [HBK.out.cell]
        match k, hlt with
        | 0, _ => rfl
        | 1, _ => rfl
        | 2, _ => rfl
        | 3, _ => rfl
        | 4, _ => rfl
        | 5, _ => rfl
      have hadd := exE k hlt
      have HF : Hid (setF (exF k) 130 (exI k) true = exF (k + 1)) := rfl
      generalize exI k = x at *
      generalize exW k = y at *
      have hyy : (y != y) = false := by simp
      have hw0 : Below wr.heap.size wr (wr.alloc (.cells #[.int .i64 x, .int .i64 y] 60)) := (Below.refl _ wr).alloc (Nat.le_refl _) _
      have HT2 := Lib.hid (HTH.out.quiet hw0)
      have HB2 := Lib.hid (HBK.out.below hw0)
      have hng : wr.heap.size ≠ g1 := by have := HTH.out.s.gt; omega
      have HAD : Hid (∀ W : World, W.heap = (wr.alloc (.cells #[.int .i64 x, .int .i64 y] 60)).heap → W.os = (wr.alloc (.cells #[.int .i64 x, .int .i64 y] 60)).os → W.tape = (wr.alloc (.cells #[.int .i64 x, .int .i64 y] 60)).tape → W.output = (wr.alloc (.cells #[.int .i64 x, .int .i64 y] 60)).output →
          Calls Tryd.prog 13 #[.pointer (some ⟨b1, 0, none⟩), .int .i64 x] W fun e w5 => e = .returned (.int .i64 y) ∧ Hid (Thr w w5 b1 g1 b2 g2 b3 g3 (exF (k + 1)) (fun _ => false)) ∧ Hid (Bk w5 A 60 #[.int .i64 0, .int .i64 0, .int .i64 129, .int .i64 0, .int .i64 64, .int .i64 0, .int .i64 64, .int .i64 0, .int .i64 130, .int .i64 3, .int .i64 (-1), .int .i64 3]) ∧ w5.cell? ⟨wr.heap.size, 0, none⟩ = some (.int .i64 x) ∧ w5.cell? ⟨wr.heap.size, 1, none⟩ = some (.int .i64 y)) := by
        intro W e1 e2 e3 e4
        have hT3 := HT2.out.quiet (Below.draws e2 e3 e4 e1 _)
        refine (add_any b1 g1 130 (exF k) x W hT3.s).mono ?_
        rintro e w5 ⟨h1, hs5, hk5⟩
        have hn5 := (Bk.new wr 60 #[.int .i64 x, .int .i64 y]).through e1 hk5 hng
        exact ⟨by rw [h1, hadd], by rw [HF.out] at hs5; exact hT3.ks hk5 hs5, HB2.out.through e1 hk5 HGA.out.symm, hn5.cell 0, hn5.cell 1⟩
      clear hadd hw0 hng
      go_wp2
      clear hc0 hc1
      go_region_with (go_at_call 13; refine (HAD.out _ (by rfl) (by rfl) (by rfl) (by rfl)).mono ?_; rintro e w5 ⟨rfl, T5, B5, hz0, hz1⟩)
      all_goals
        go_wp2
        go_roundw
        case rel => exact ⟨k + 1, by omega, by go_num, T5.out.quiet (Below.draws rfl rfl rfl rfl _), B5.out⟩
        case measure => simp [intOf]; omega
    · obtain rfl : k = 6 := by omega
      go_wp2_with fail
      refine (next_s b1 g1 130 (exF 6) 65 129 [] (by decide) _ HTH.out.s HTH.out.tab ex2).mono ?_
      rintro e w5 ⟨rfl, hb5⟩
      have T5 := Lib.hid (HTH.out.quiet hb5)
      clear hb5
      go_wp2_with fail
      refine (all_s b1 g1 130 (exF 6) [0, 64, 129] _ T5.out.s T5.out.tab ex1).mono ?_
      rintro e w6 ⟨v6, rfl, hv6, _, hb6⟩
      have T6 := Lib.hid (T5.out.quiet hb6)
      have V6 := Lib.hid hv6
      clear hv6 hb6 T5
      go_wp2_with fail
      refine (equal_yes _ _ [0, 64, 129] _ (V6.out.below ((Below.refl _ w6).alloc (Nat.le_refl _) _)) (Sl.lit w6 [0, 64, 129] (by decide))).mono ?_
      rintro e w7 ⟨rfl, q, rfl⟩
      have T7 := Lib.hid ((T6.out.quiet ((Below.refl _ w6).alloc (Nat.le_refl _) (.cells (ints [0, 64, 129]).toArray 3))).quiet (bel_drewN (Below.refl _ _) q))
      clear T6 V6
      generalize (w6.alloc (.cells (ints [0, 64, 129]).toArray 3)).drewN q = w8 at *
      go_wp2_with fail
      refine (remove_any b1 g1 130 (exF 6) 64 _ T7.out.s).mono ?_
      rintro e w9 ⟨rfl, hs9, hk9⟩
      have T9 : Hid (Thr w w9 b1 g1 b2 g2 b3 g3 exF2 (fun _ => false)) := T7.out.ks hk9 hs9
      clear hs9 hk9 T7
      go_wp2_with fail
      refine (add_any b2 g2 130 (fun _ => false) 5 _ T9.out.t).mono ?_
      rintro e w10 ⟨rfl, hs9, hk9⟩
      have T10 := Lib.hid (T9.out.kt hk9 hs9)
      clear hs9 hk9 T9
      go_wp2_with fail
      refine (add_any b2 g2 130 _ 129 _ T10.out.t).mono ?_
      rintro e w11 ⟨rfl, hs9, hk9⟩
      have T11 : Hid (Thr w w11 b1 g1 b2 g2 b3 g3 exF2 exH) := T10.out.kt hk9 hs9
      clear hs9 hk9 T10
      go_wp2_with fail
      refine (union_ok b1 g1 b2 g2 130 exF2 exH _ T11.out.s T11.out.t (.inl (by have := T11.out.x2; omega))).mono ?_
      rintro e w12 ⟨rfl, hs9, hk9⟩
      have T12 := Lib.hid (T11.out.ks hk9 hs9)
      clear hs9 hk9 T11
      go_wp2_with fail
      refine (all_s b1 g1 130 _ [0, 5, 129] _ T12.out.s T12.out.tab ex3).mono ?_
      rintro e w13 ⟨v13, rfl, hv13, hn13, hb13⟩
      have hg12 := T12.out.s.gt
      have T13 := Lib.hid (T12.out.quiet hb13)
      have V13 := Lib.hid hv13
      have N13 : Hid (∀ k, k = g1 → ∀ a c, v13 = .slice (some a) [0, 5, 129].length c → a.block ≠ k) := fun k e a c h => by have := hn13 a _ c h; omega
      clear hv13 hb13 hn13 T12 hg12
      go_wp2_with fail
      refine (minus_ok b1 g1 b2 g2 130 _ exH _ T13.out.s T13.out.t (.inl (by have := T13.out.x2; omega))).mono ?_
      rintro e w14 ⟨rfl, hs9, hk9⟩
      have T14 := Lib.hid (T13.out.ks hk9 hs9)
      have V14 := Lib.hid (V13.out.kept hk9 N13.out)
      clear hs9 hk9 T13 V13 N13
      go_wp2_with fail
      refine (equal_yes _ _ [0, 5, 129] _ (V14.out.below ((Below.refl _ w14).alloc (Nat.le_refl _) _)) (Sl.lit w14 [0, 5, 129] (by decide))).mono ?_
      rintro e w15 ⟨rfl, q, rfl⟩
      have T15 := Lib.hid ((T14.out.quiet ((Below.refl _ w14).alloc (Nat.le_refl _) (.cells (ints [0, 5, 129]).toArray 3))).quiet (bel_drewN (Below.refl _ _) q))
      clear T14 V14
      generalize (w14.alloc (.cells (ints [0, 5, 129]).toArray 3)).drewN q = w16 at *
      go_wp2_with fail
      refine (all_s b1 g1 130 _ [0] _ T15.out.s T15.out.tab ex4).mono ?_
      rintro e w17 ⟨v17, rfl, hv17, _, hb17⟩
      have T17 := Lib.hid (T15.out.quiet hb17)
      have V17 := Lib.hid hv17
      clear hv17 hb17 T15
      go_wp2_with fail
      refine (equal_yes _ _ [0] _ (V17.out.below ((Below.refl _ w17).alloc (Nat.le_refl _) _)) (Sl.lit w17 [0] (by decide))).mono ?_
      rintro e w18 ⟨rfl, q2, rfl⟩
      have T18 := Lib.hid ((T17.out.quiet ((Below.refl _ w17).alloc (Nat.le_refl _) (.cells (ints [0]).toArray 3))).quiet (bel_drewN (Below.refl _ _) q2))
      clear T17 V17
      generalize (w17.alloc (.cells (ints [0]).toArray 3)).drewN q2 = w19 at *
      go_wp2_with fail
      refine (union_arg b1 g1 130 b3 g3 131 _ _ _ T18.out.s T18.out.u (by decide)).mono ?_
      rintro e w20 ⟨rfl, q3, rfl⟩
      go_wp2
      go_ret
      exact ⟨rfl, bel_drewN T18.out.bel q3⟩
end Go.Proofs.YtaenemdclmnnaaaDoor
