/- The walk of BufsRefuses: it returns true for every input. -/
import Derived.Test.YtjhgckaaaonbiaaUs
import Derived.Test.YtjhgckaaaonbiaaUq
import Derived.Deep.Cut
import Derived.Deep.CutRange
namespace Go.Proofs.Ytjhgckaaaonbiaa
open Go.RowKit

set_option maxHeartbeats 1000000 in
set_option maxRecDepth 100000 in
theorem uRef_long (x0 x1 x3 : Int) (a : Option Addr) (len cap : Nat) (w : World) (hl : 100 < len) :
    Calls Try.prog 8 #[.int .u8 x0, .int .u16 x1, .slice a len cap, .int .u16 x3] w fun e w' => e = .returned (.bool true) ∧ Below w.heap.size w w' := by
  have h : (100 : Int) < len := by omega
  clear hl
  go_enter Try.func8, Try.ntmps8
  go_wp2_with (go_at_call 10; refine (works_ok _).mono ?_; rintro e w' ⟨rfl, hb⟩; have HB := Lib.hid hb; clear hb)
  go_ret
  exact ⟨rfl, HB.out⟩

/-! ### refused calls leave everything -/
theorem punpin_no (b s k : Nat) (P : Po) (x y z E : Int) (w : World) (h : PW w b s k P) (hc : P.chk x y z = E) (hE : E ≠ 0) : Calls Try.prog 16 #[.pointer (some ⟨b, 0, none⟩), .agg #[.int .i64 x, .int .i64 y, .int .u32 z]] w fun e w' => e = .returned (.int .i64 E) ∧ Below w.heap.size w w' := by
  subst hc
  exact punpin_core _ x y z _ w (by simpa using hE) fun W hW => pheld_no b s k P x y z W (h.below hW) hE
theorem pbytes_no (b s k : Nat) (P : Po) (x y z E : Int) (w : World) (h : PW w b s k P) (hc : P.chk x y z = E) (hE : E ≠ 0) : Calls Try.prog 20 #[.pointer (some ⟨b, 0, none⟩), .agg #[.int .i64 x, .int .i64 y, .int .u32 z]] w (BytesV 0 E w) := by
  subst hc
  exact pbytes_core _ x y z _ w (by simpa using hE) fun W hW => pheld_no b s k P x y z W (h.below hW) hE
theorem chk_kind {P : Po} {x : Int} (h : x ≠ 2) (y z : Int) : P.chk x y z = 2 := if_neg h
theorem chk_range {P : Po} {y : Int} (h : y < 0 ∨ (P.t.n : Int) ≤ y) (z : Int) : P.chk 2 y z = 3 := by
  unfold Po.chk Tb.chk
  rw [if_pos rfl, if_pos h]
theorem chk_gen {P : Po} {i : Nat} (hi : i < P.t.n) {z : Int} (hz : (P.t.g i : Int) ≠ z) : P.chk 2 i z = 7 := by
  unfold Po.chk Tb.chk
  rw [if_pos rfl, if_neg (by omega), Int.toNat_natCast, if_neg (fun h => hz h.2)]
/-- The kinds that are tried. -/
def kindOf (N r : Nat) : Int := match r with | 0 => 1 | 1 => 3 | 2 => 0 | 3 => 4 + N | _ => -1
theorem kindOf_ne (N r : Nat) : kindOf N r ≠ 2 := by
  unfold kindOf
  split <;> omega
theorem kindOf_at (N r : Nat) (h : r < [Value.int .i64 1, .int .i64 3, .int .i64 0, .int .i64 (4 + N), .int .i64 (-1)].length) : [Value.int .i64 1, .int .i64 3, .int .i64 0, .int .i64 (4 + N), .int .i64 (-1)][r] = .int .i64 (kindOf N r) := by
  match r, h with
  | 0, _ => rfl
  | 1, _ => rfl
  | 2, _ => rfl
  | 3, _ => rfl
  | 4, _ => rfl
  | r + 5, h => exact absurd h (by simp)
/-- Both pools, in the same state. -/
structure Duo (w0 w : World) (b s k b' s' k' : Nat) (P : Po) : Prop where
  p : PW w b s k P
  q : PW w b' s' k' P
  bel : Below w0.heap.size w0 w
theorem Duo.quiet {w0 w w' : World} {b s k b' s' k' : Nat} {P : Po} (h : Duo w0 w b s k b' s' k' P) (q : Below w.heap.size w w') : Duo w0 w' b s k b' s' k' P := ⟨h.p.below q, h.q.below q, bel2 h.bel q⟩

/-- Three boxes of the same resource. -/
def Tr3 (w W : World) (o : Array Value) (X Y Z : Nat) : Prop :=
  (X ≠ Y ∧ X ≠ Z ∧ Y ≠ Z) ∧ (w.heap.size ≤ X ∧ w.heap.size ≤ Y ∧ w.heap.size ≤ Z) ∧ Bk W X 34 o ∧ Bk W Y 34 o ∧ Bk W Z 34 o ∧ Below w.heap.size w W
theorem tr3_of (w : World) (o : Array Value) (S : Nat) (hS : w.heap.size = S) {W : World} (hW : (((w.alloc (.cells o 34)).alloc (.cells o 34)).alloc (.cells o 34)).drew = W) :
    Tr3 w W o S (S + 1) (S + 1 + 1) ∧ Tr3 w W o S (S + 1 + 1) (S + 1) ∧ Tr3 w W o (S + 1) S (S + 1 + 1) ∧ Tr3 w W o (S + 1) (S + 1 + 1) S ∧ Tr3 w W o (S + 1 + 1) S (S + 1) ∧ Tr3 w W o (S + 1 + 1) (S + 1) S := by
  subst hS hW
  have b1 := Bk.new w 34 o
  have b2 := Bk.new (w.alloc (.cells o 34)) 34 o
  have b3 := Bk.new ((w.alloc (.cells o 34)).alloc (.cells o 34)) 34 o
  simp only [World.size_alloc] at b2 b3
  have c1 := ((b1.up (.cells o 34)).up (.cells o 34)).below (bel_drew (Below.refl _ _))
  have c2 := (b2.up (.cells o 34)).below (bel_drew (Below.refl _ _))
  have c3 := b3.below (bel_drew (Below.refl _ _))
  have hB := bel_drew (bel_alloc (bel_alloc (bel_alloc (Below.refl w.heap.size w) (.cells o 34)) (.cells o 34)) (.cells o 34))
  refine ⟨⟨⟨?_, ?_, ?_⟩, ⟨?_, ?_, ?_⟩, c1, c2, c3, hB⟩, ⟨⟨?_, ?_, ?_⟩, ⟨?_, ?_, ?_⟩, c1, c3, c2, hB⟩, ⟨⟨?_, ?_, ?_⟩, ⟨?_, ?_, ?_⟩, c2, c1, c3, hB⟩, ⟨⟨?_, ?_, ?_⟩, ⟨?_, ?_, ?_⟩, c2, c3, c1, hB⟩, ⟨⟨?_, ?_, ?_⟩, ⟨?_, ?_, ?_⟩, c3, c1, c2, hB⟩, ⟨⟨?_, ?_, ?_⟩, ⟨?_, ?_, ?_⟩, c3, c2, c1, hB⟩⟩
  all_goals omega

set_option maxHeartbeats 8000000 in
set_option maxRecDepth 100000 in
theorem uRef_short (x0 x1 : Int) (a : Option Addr) (len cap : Nat) (cl : Nat → Bool) (num : Nat → Nat) (N : Nat) (w : World) (h00 : 0 ≤ x0) (h01 : x0 ≤ 255) (h10 : 0 ≤ x1) (h11 : x1 ≤ 65535) (hl : len ≤ 100) (hu : Turns w a len cl num) (hM : N ≤ 65535) :
    Calls Try.prog 8 #[.int .u8 x0, .int .u16 x1, .slice a len cap, .int .u16 N] w fun e w' => e = .returned (.bool true) ∧ Below w.heap.size w w' := by
  obtain ⟨n, hn⟩ : ∃ n : Nat, 1 + x0 % 64 = (n : Int) := ⟨(1 + x0 % 64).toNat, by omega⟩
  obtain ⟨r, hr⟩ : ∃ r : Nat, 1 + x1 % 4000 = (r : Int) := ⟨(1 + x1 % 4000).toNat, by omega⟩
  have FI : Hid (∀ W, Below w.heap.size w W → Calls Try.prog 24 #[.int .u8 x0, .int .u16 x1, .int .u32 7, .slice a len cap] W (FilV (runP (pf0 x0 x1 7) cl num len) W)) := fun W hW =>
    filled_ok x0 x1 7 7 a len cap cl num W h00 h01 h10 h11 (.inr ⟨by decide, rfl⟩) (by decide) (by omega) (hu.below hW)
  have hl2 : ¬ (100 : Int) < len := by omega
  have e0 : pf0 x0 x1 7 = pfresh n r 7 := by unfold pf0; rw [hn, hr]; simp
  rw [e0] at FI
  have KP0 := (Kp.fresh (n := n) (r := r) (f := 7) (by omega) (by omega) (by decide) (by decide) (by omega)).run cl num len (by omega)
  obtain ⟨P, hP⟩ : ∃ P, runP (pfresh n r 7) cl num len = P := ⟨_, rfl⟩
  rw [hP] at FI KP0
  have KP := Lib.hid (KP0.mono (g' := 107) (by omega))
  have hn64 : n ≤ 64 := by omega
  have hM2 : (N : Int) ≤ 65535 := by omega
  have hmod : (N : Int).tmod 5 = ((N % 5 : Nat) : Int) := tmod_nat N 5
  have hr5 : N % 5 < 5 := by omega
  have KN := Lib.hid (kindOf_ne N (N % 5))
  have KA := fun h => kindOf_at N (N % 5) h
  generalize N % 5 = r5 at *
  generalize kindOf N r5 = kk at *
  have hr52 : (r5 : Int) < 5 := by omega
  clear hu hP h00 h01 h10 h11 hl KP0 e0 hM hn hr
  go_enter Try.func8, Try.ntmps8
  go_wp2_with fail
  refine (FI.out _ (Below.refl _ _)).mono ?_
  rintro e w1 ⟨b, rfl, s, k, S1⟩
  have SA := Lib.hid S1
  clear S1
  go_wp2_with fail
  refine (pcopy_ok _ _ _ P _ SA.out.f).mono ?_
  rintro e w2 ⟨b', rfl, s', k', N1, _, N3⟩
  have D2 : Hid (Duo w w2 b s k b' s' k' P) := ⟨SA.out.f.below N3, N1, bel2 SA.out.bel N3⟩
  clear N1 N3 SA
  go_wp2_with (first
    | (go_at_call 13; (with_reducible refine (ppin_arg b s k P (-(N : Int)) _ D2.out.p (.inl (by omega))).mono ?_); rintro e w3 ⟨rfl, hb⟩; have D3 := Lib.hid ((D2.out.quiet hb).quiet ((Below.refl _ _).alloc (Nat.le_refl _) (.cells #[.int .i64 0, .int .i64 0, .int .u32 0] 34))); clear hb)
    | (go_at_call 13; (with_reducible refine (ppin_arg b s k P (65537 + (N : Int)) _ D3.out.p (.inr (by omega))).mono ?_); rintro e w4 ⟨rfl, hb⟩; have D4 := Lib.hid ((D3.out.quiet hb).quiet ((Below.refl _ _).alloc (Nat.le_refl _) (.cells #[.int .i64 0, .int .i64 0, .int .u32 0] 34))); clear hb)
    | (go_at_call 22; (with_reducible refine (pall_ok b s k P _ D4.out.p).mono ?_); rintro e w5 ⟨p, c, rfl, ho, hb⟩; have D5 := Lib.hid (D4.out.quiet hb); have RR := Lib.hid (RdO.of_own ho); clear hb ho))
  clear D2 D3 D4
  have HLN : Hid (P.all.length = P.t.held.length) := P.all_len
  have hm64 := D5.out.p.ok.held_len
  obtain ⟨m, hm⟩ : ∃ m, P.all.length = m := ⟨_, rfl⟩
  rw [← P.all_len, hm] at hm64
  rw [hm] at RR ⊢
  have HM := Lib.hid hm
  have hm642 : (m : Int) ≤ 64 := by omega
  clear hm HLN hm64
  go_loopw [17] (fun v wr => ∃ j : Nat, j ≤ m ∧ v = .int .i64 j ∧ Hid (Below w5.heap.size w5 wr)) (fun v _ => m - (intOf v).toNat)
  case atStart => exact ⟨0, Nat.zero_le _, rfl, Below.refl _ _⟩
  case round =>
    obtain ⟨j, hj, rfl, HB⟩ := hrel
    have D := Lib.hid (D5.out.quiet HB.out)
    by_cases hlt : j < m
    · obtain ⟨i, hx, hin, his⟩ := Po.all_at (List.getElem?_eq_getElem (l := P.all) (i := j) (by rw [HM.out]; exact hlt))
      obtain ⟨g, off, rfl, hg, t0, t1, t2⟩ := (RR.out.below HB.out).cell (j := j) (by rw [HM.out]; exact hlt)
      rw [hx] at t0 t1 t2
      have hgu := KP.out.g_le i
      have hg1 := KP.out.ok.t.g1 i hin
      have CK : Hid (∀ y z, P.chk kk y z = 2) := fun y z => chk_kind KN.out y z
      have CR : Hid (∀ z, P.chk 2 (64 + (N : Int)) z = 3) := fun z => chk_range (.inr (by rw [KP.out.n_eq]; omega)) z
      have CG : Hid (∀ z : Int, (P.t.g i : Int) ≠ z → P.chk 2 i z = 7) := fun z hz => chk_gen hin hz
      have hi64 : i < 64 := by rw [KP.out.n_eq] at hin; omega
      generalize P.t.g i = u at *
      simp only at t0 t1 t2
      have hi642 : (i : Int) < 64 := by omega
      have hu2 : (u : Int) ≤ 107 := by omega
      clear hx hin his hgu hg1
      go_wp2
      obtain ⟨w6, h6⟩ : ∃ w6, wr.alloc (.cells #[.int .i64 2, .int .i64 i, .int .u32 u] 34) = w6 := ⟨_, rfl⟩
      obtain ⟨A, hA⟩ : ∃ A, wr.heap.size = A := ⟨_, rfl⟩
      have b6 : Bk w6 A 34 #[.int .i64 2, .int .i64 i, .int .u32 u] := by rw [← h6, ← hA]; exact Bk.new wr _ _
      have D6 : Hid (Duo w w6 b s k b' s' k' P) := by rw [← h6]; exact D.out.quiet ((Below.refl _ _).alloc (Nat.le_refl _) _)
      have HB6 : Hid (Below w5.heap.size w5 w6) := by rw [← h6]; exact bel_alloc HB.out _
      rw [h6, hA]
      clear h6 D hg t0 t1 t2
      obtain ⟨a0, a1, a2, a3⟩ := ob_cells b6
      have d0 : ∀ o1 o2 o3, (((w6.alloc o1).alloc o2).alloc o3).cell? ⟨A, 0, none⟩ = some (.int .i64 2) := fun o1 o2 o3 => (((b6.up o1).up o2).up o3).cell 0
      have d1 : ∀ o1 o2 o3, (((w6.alloc o1).alloc o2).alloc o3).cell? ⟨A, 1, none⟩ = some (.int .i64 i) := fun o1 o2 o3 => (((b6.up o1).up o2).up o3).cell 1
      have d2 : ∀ o1 o2 o3, (((w6.alloc o1).alloc o2).alloc o3).cell? ⟨A, 2, none⟩ = some (.int .u32 u) := fun o1 o2 o3 => (((b6.up o1).up o2).up o3).cell 2
      have TR := Lib.hid (tr3_of w6 #[.int .i64 2, .int .i64 i, .int .u32 u] _ rfl rfl)
      have B6 := Lib.hid b6
      clear b6
      go_cut [19, 20, 21] from 88 to 90 (fun v19 v20 v21 wx => ∃ X Y Z, v19 = .pointer (some ⟨X, 0, none⟩) ∧ v20 = .pointer (some ⟨Y, 0, none⟩) ∧ v21 = .pointer (some ⟨Z, 0, none⟩) ∧ Hid (Tr3 w6 wx #[.int .i64 2, .int .i64 i, .int .u32 u] X Y Z))
      case first =>
        go_region
        all_goals
          go_wp2
          go_meet
          exact ⟨_, _, _, rfl, rfl, rfl, by first | exact TR.out.1 | exact TR.out.2.1 | exact TR.out.2.2.1 | exact TR.out.2.2.2.1 | exact TR.out.2.2.2.2.1 | exact TR.out.2.2.2.2.2⟩
      case rest =>
      clear TR a0 a1 a2 a3 d0 d1 d2
      obtain ⟨X, Y, Z, rfl, rfl, rfl, HT⟩ := hcut
      obtain ⟨⟨n1, n2, n3⟩, ⟨l1, l2, l3⟩, x1, x2, x3, bw⟩ := HT.out
      have bA := B6.out.below bw
      have lA := B6.out.lt
      have n4 : A ≠ X := by omega
      have n5 : A ≠ Y := by omega
      have n6 : A ≠ Z := by omega
      have D9 := Lib.hid (D6.out.quiet bw)
      have HB9 := Lib.hid (bel2 HB6.out bw)
      have FT : Hid (∀ g, PFoot b s k g ∨ PFoot b' s' k' g → g < w6.heap.size) := fun g hg => by
        rcases hg with hg | hg
        · exact D6.out.p.foot_lt hg
        · exact D6.out.q.foot_lt hg
      obtain ⟨x10, x11, x12, x13⟩ := ob_cells x1
      obtain ⟨x20, x21, x22, x23⟩ := ob_cells x2
      obtain ⟨x30, x31, x32, x33⟩ := ob_cells x3
      obtain ⟨a0, a1, a2, a3⟩ := ob_cells bA
      have f1 := x1.frozen 0
      have f2 := x2.frozen 1
      have f3 := x3.frozen 2
      have HX := Lib.hid (And.intro x1 (And.intro x2 (And.intro x3 (And.intro bA (And.intro bw (And.intro l1 (And.intro l2 l3)))))))
      clear x1 x2 x3 bA bw HT l1 l2 l3 lA B6
      go_upto_region 21 with fail
      obtain ⟨W10, hW10⟩ : ∃ W, ((((wc.setCell ⟨X, 0, none⟩ (.int .i64 kk)).setCell ⟨Y, 1, none⟩ (.int .i64 (64 + (N : Int)))).setCell ⟨Z, 2, none⟩ (.int .u32 ((u : Int) + 1 + N))).alloc (.cells #[.int .i64 1, .int .i64 3, .int .i64 0, .int .i64 (4 + (N : Int)), .int .i64 (-1)] 3)) = W := ⟨_, rfl⟩
      have H10 : Hid (Bk W10 X 34 #[.int .i64 kk, .int .i64 i, .int .u32 u] ∧ Bk W10 Y 34 #[.int .i64 2, .int .i64 (64 + (N : Int)), .int .u32 u] ∧ Bk W10 Z 34 #[.int .i64 2, .int .i64 i, .int .u32 ((u : Int) + 1 + N)] ∧ Duo w W10 b s k b' s' k' P ∧ Below w5.heap.size w5 W10) := by
        obtain ⟨x1, x2, x3, bA, bw, l1, l2, l3⟩ := HX.out
        rw [← hW10]
        refine ⟨Bk.up ?_ _, Bk.up ?_ _, Bk.up ?_ _, ?_, ?_⟩
        · exact ((x1.put 0 (.int .i64 kk)).same (Below.heap_setCell _ _ _ _ n1)).same (Below.heap_setCell _ _ _ _ n2)
        · exact ((x2.same (Below.heap_setCell _ _ _ _ (fun e => n1 e.symm))).put 1 (.int .i64 (64 + (N : Int)))).same (Below.heap_setCell _ _ _ _ n3)
        · exact ((x3.same (Below.heap_setCell _ _ _ _ (fun e => n2 e.symm))).same (Below.heap_setCell _ _ _ _ (fun e => n3 e.symm))).put 2 (.int .u32 ((u : Int) + 1 + N))
        · have hk := (((Kept.refl (fun g => w6.heap.size ≤ g) wc).put (p := ⟨X, 0, none⟩) (.inr l1) (.int .i64 kk)).put (p := ⟨Y, 1, none⟩) (.inr l2) (.int .i64 (64 + (N : Int)))).put (p := ⟨Z, 2, none⟩) (.inr l3) (.int .u32 ((u : Int) + 1 + N))
          have hk2 := hk.alloc (.cells #[.int .i64 1, .int .i64 3, .int .i64 0, .int .i64 (4 + (N : Int)), .int .i64 (-1)] 3)
          exact ⟨D9.out.p.kept hk2 (fun g hg e => by have := FT.out g (.inl hg); omega), D9.out.q.kept hk2 (fun g hg e => by have := FT.out g (.inr hg); omega), D9.out.bel.trans (hk2.below D9.out.bel.size fun g e => by have := D6.out.bel.size; omega)⟩
        · have hs := HB6.out.size
          exact (((HB9.out.setCell (p := ⟨X, 0, none⟩) (by simp; omega) _).setCell (p := ⟨Y, 1, none⟩) (by simp; omega) _).setCell (p := ⟨Z, 2, none⟩) (by simp; omega) _).alloc (by have := HB9.out.size; simp; omega) _
      rw [hW10]
      clear hW10 HX D9 HB9 D6 HB6 FT n1 n2 n3 n4 n5 n6 x10 x11 x12 x13 x20 x21 x22 x23 x30 x31 x32 x33 a0 a1 a2 a3 f1 f2 f3 KA
      have FX : Hid (∀ W, Below W10.heap.size W10 W → (W.cell? ⟨X, 0, none⟩ = some (.int .i64 kk) ∧ W.cell? ⟨X, 1, none⟩ = some (.int .i64 i) ∧ W.cell? ⟨X, 2, none⟩ = some (.int .u32 u)) ∧ (W.cell? ⟨Y, 0, none⟩ = some (.int .i64 2) ∧ W.cell? ⟨Y, 1, none⟩ = some (.int .i64 (64 + (N : Int))) ∧ W.cell? ⟨Y, 2, none⟩ = some (.int .u32 u)) ∧ (W.cell? ⟨Z, 0, none⟩ = some (.int .i64 2) ∧ W.cell? ⟨Z, 1, none⟩ = some (.int .i64 i) ∧ W.cell? ⟨Z, 2, none⟩ = some (.int .u32 ((u : Int) + 1 + N))) ∧ PW W b s k P) := fun W hW => by
        obtain ⟨h1, h2, h3, h4, _⟩ := H10.out
        have g1 := ob_cells (h1.below hW)
        have g2 := ob_cells (h2.below hW)
        have g3 := ob_cells (h3.below hW)
        exact ⟨⟨g1.1, g1.2.1, g1.2.2.1⟩, ⟨g2.1, g2.2.1, g2.2.2.1⟩, ⟨g3.1, g3.2.1, g3.2.2.1⟩, h4.p.below hW⟩
      have CG2 : Hid (P.chk 2 i ((u : Int) + 1 + N) = 7) := CG.out _ (by omega)
      have FIN : Hid (∀ W, Below W10.heap.size W10 W → Below w5.heap.size w5 W) := fun W hW => bel2 H10.out.2.2.2.2 hW
      clear H10 CG
      obtain ⟨⟨x10, x11, x12⟩, ⟨x20, x21, x22⟩, ⟨x30, x31, x32⟩, _⟩ := FX.out W10 (Below.refl _ _)
      go_wp2_with (first
        | (go_at_call 20; (with_reducible refine (pbytes_no b s k P kk i u 2 W10 (FX.out W10 (Below.refl _ _)).2.2.2 (CK.out _ _) (by decide)).mono ?_); rintro e v1 ⟨rfl, hb⟩; have V1 := Lib.hid hb; clear x10 x11 x12 x20 x21 x22 x30 x31 x32; obtain ⟨⟨x10, x11, x12⟩, ⟨x20, x21, x22⟩, ⟨x30, x31, x32⟩, _⟩ := FX.out v1 V1.out; clear hb)
        | (go_at_call 20; (with_reducible refine (pbytes_no b s k P 2 (64 + (N : Int)) u 3 _ (FX.out _ V1.out).2.2.2 (CR.out _) (by decide)).mono ?_); rintro e v2 ⟨rfl, hb⟩; have V2 := Lib.hid (bel2 V1.out hb); clear x10 x11 x12 x20 x21 x22 x30 x31 x32; obtain ⟨⟨x10, x11, x12⟩, ⟨x20, x21, x22⟩, ⟨x30, x31, x32⟩, _⟩ := FX.out v2 V2.out; clear hb)
        | (go_at_call 20; (with_reducible refine (pbytes_no b s k P 2 i ((u : Int) + 1 + N) 7 _ (FX.out _ V2.out).2.2.2 CG2.out (by decide)).mono ?_); rintro e v3 ⟨rfl, hb⟩; have V3 := Lib.hid (bel2 V2.out hb); clear x10 x11 x12 x20 x21 x22 x30 x31 x32; obtain ⟨⟨x10, x11, x12⟩, ⟨x20, x21, x22⟩, ⟨x30, x31, x32⟩, _⟩ := FX.out v3 V3.out; clear hb)
        | (go_at_call 16; (with_reducible refine (punpin_no b s k P kk i u 2 _ (FX.out _ V3.out).2.2.2 (CK.out _ _) (by decide)).mono ?_); rintro e v4 ⟨rfl, hb⟩; have V4 := Lib.hid (bel2 V3.out hb); clear x10 x11 x12 x20 x21 x22 x30 x31 x32; obtain ⟨⟨x10, x11, x12⟩, ⟨x20, x21, x22⟩, ⟨x30, x31, x32⟩, _⟩ := FX.out v4 V4.out; clear hb)
        | (go_at_call 16; (with_reducible refine (punpin_no b s k P 2 (64 + (N : Int)) u 3 _ (FX.out _ V4.out).2.2.2 (CR.out _) (by decide)).mono ?_); rintro e v5 ⟨rfl, hb⟩; have V5 := Lib.hid (bel2 V4.out hb); clear x10 x11 x12 x20 x21 x22 x30 x31 x32; obtain ⟨⟨x10, x11, x12⟩, ⟨x20, x21, x22⟩, ⟨x30, x31, x32⟩, _⟩ := FX.out v5 V5.out; clear hb)
        | (go_at_call 16; (with_reducible refine (punpin_no b s k P 2 i ((u : Int) + 1 + N) 7 _ (FX.out _ V5.out).2.2.2 CG2.out (by decide)).mono ?_); rintro e v6 ⟨rfl, hb⟩; have V6 := Lib.hid (FIN.out _ (bel2 V5.out hb)); clear x10 x11 x12 x20 x21 x22 x30 x31 x32; clear hb))
      go_roundw
      case rel => exact ⟨j + 1, by omega, by go_num, V6.out⟩
      case measure => simp [intOf]; omega
    · obtain rfl : j = m := by omega
      have NB : Hid (∀ (n r g : Int) (W : World), I64 n → I64 r → (0 ≤ g ∧ g ≤ 4294967295) → PBad n r g → Calls Try.prog 11 #[.int .i64 n, .int .i64 r, .int .u32 g] W fun e w' => e = .returned (.tuple #[.pointer none, .int .i64 2]) ∧ W = w') := pnew_bad
      have CR2 : Hid (P.chk 2 (-1 - (N : Int)) 7 = 3) := chk_range (.inl (by omega)) 7
      have SM : Hid (∀ W, Below wr.heap.size wr W → Calls Try.prog 25 #[.pointer (some ⟨b, 0, none⟩), .pointer (some ⟨b', 0, none⟩)] W fun e w' => e = .returned (.bool true) ∧ Below W.heap.size W w') := fun W hW => same_ok _ _ _ _ _ _ P W (D.out.quiet hW).p (D.out.quiet hW).q
      have UP : Hid (∀ W, Below wr.heap.size wr W → Calls Try.prog 16 #[.pointer (some ⟨b, 0, none⟩), .agg #[.int .i64 2, .int .i64 (-1 - (N : Int)), .int .u32 7]] W fun e w' => e = .returned (.int .i64 3) ∧ Below W.heap.size W w') := fun W hW => punpin_no b s k P _ _ _ 3 W (D.out.quiet hW).p CR2.out (by decide)
      clear KA CR2
      go_wp2_with (first
        | (go_at_call 11; (with_reducible refine (NB.out 0 1 1 _ (by unfold I64; omega) (by unfold I64; omega) (by omega) (by unfold PBad; omega)).mono ?_); rintro e w' ⟨rfl, rfl⟩)
        | (go_at_call 11; (with_reducible refine (NB.out (65 + (N : Int)) 1 1 _ (by unfold I64; omega) (by unfold I64; omega) (by omega) (by unfold PBad; omega)).mono ?_); rintro e w' ⟨rfl, rfl⟩)
        | (go_at_call 11; (with_reducible refine (NB.out 1 (-(N : Int)) 1 _ (by unfold I64; omega) (by unfold I64; omega) (by omega) (by unfold PBad; omega)).mono ?_); rintro e w' ⟨rfl, rfl⟩)
        | (go_at_call 11; (with_reducible refine (NB.out 1 (16777217 + (N : Int)) 1 _ (by unfold I64; omega) (by unfold I64; omega) (by omega) (by unfold PBad; omega)).mono ?_); rintro e w' ⟨rfl, rfl⟩)
        | (go_at_call 11; (with_reducible refine (NB.out 1 1 0 _ (by unfold I64; omega) (by unfold I64; omega) (by omega) (by unfold PBad; omega)).mono ?_); rintro e w' ⟨rfl, rfl⟩)
        | (go_at_call 25; (with_reducible refine (SM.out _ (Below.refl _ _)).mono ?_); rintro e w7 ⟨rfl, hb⟩; have V7 := Lib.hid hb; clear hb)
        | (go_at_call 16; (with_reducible refine (UP.out _ V7.out).mono ?_); rintro e w8 ⟨rfl, hb⟩; have V8 := Lib.hid (bel2 V7.out hb); clear hb)
        | (go_at_call 10; refine (works_ok _).mono ?_; rintro e w' ⟨rfl, hb⟩; have V9 := Lib.hid (bel2 V8.out hb); clear hb))
      go_ret
      exact ⟨rfl, bel2 D.out.bel V9.out⟩
theorem uRef_walk (x0 x1 : Int) (a : Option Addr) (len cap : Nat) (cl : Nat → Bool) (num : Nat → Nat) (x3 : Int) (w : World) (h00 : 0 ≤ x0) (h01 : x0 ≤ 255) (h10 : 0 ≤ x1) (h11 : x1 ≤ 65535) (_lc : len ≤ cap) (_cm : cap ≤ 9223372036854775807) (hu : Turns w a len cl num) (h30 : 0 ≤ x3) (h31 : x3 ≤ 65535) :
    Calls Try.prog 8 #[.int .u8 x0, .int .u16 x1, .slice a len cap, .int .u16 x3] w fun e w' => e = .returned (.bool true) ∧ Below w.heap.size w w' := by
  obtain ⟨N, rfl⟩ : ∃ M : Nat, x3 = M := ⟨x3.toNat, by omega⟩
  by_cases h : 100 < len
  · exact uRef_long x0 x1 N a len cap w h
  · exact uRef_short x0 x1 a len cap cl num N w h00 h01 h10 h11 (by omega) hu (by omega)
end Go.Proofs.Ytjhgckaaaonbiaa
