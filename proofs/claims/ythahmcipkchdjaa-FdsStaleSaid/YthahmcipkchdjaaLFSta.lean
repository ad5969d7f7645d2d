/- The walk of FdsStale: it returns true for every input. -/
import Derived.Test.YthahmcipkchdjaaFw
import Derived.Test.YthahmcipkchdjaaFz
import Derived.Deep.CutRange
namespace Go.Proofs.Ythahmcipkchdjaa
open Go.RowKit

/-- All ids are free, the generation of id 0 is y. -/
structure Sl (F : Fb) (n y : Nat) : Prop where
  n_eq : F.t.n = n
  st : ∀ j, j < n → F.t.s j = 0
  at_ : F.t.g 0 = y
theorem Sl.fresh {n : Nat} (g : Nat) (h : 1 ≤ n) : Sl (ffresh n g) n g := ⟨rfl, fun _ _ => rfl, if_pos (show 0 < n by omega)⟩
theorem Sl.step {F : Fb} {n y x : Nat} (h : Sl F n y) (hy : y < 4294967295) : Sl ((F.opened 0 x).close 0) n (y + 1) := by
  have hg : (F.t.took 0).g 0 = y := h.at_
  have e : (F.t.took 0).gave 0 = ⟨F.t.n, put (put F.t.s 0 1) 0 0, put F.t.g 0 (y + 1)⟩ := by
    unfold Tb.gave; rw [if_neg (by rw [hg]; omega), hg]; rfl
  refine ⟨((F.opened 0 x).close_n 0).trans h.n_eq, fun j hj => ?_, ?_⟩
  · show ((F.t.took 0).gave 0).s j = 0
    rw [e]; simp only []
    by_cases c : j = 0
    · rw [c, put_same]
    · rw [put_other c, put_other c]; exact h.st j hj
  · show ((F.t.took 0).gave 0).g 0 = y + 1
    rw [e]; simp only []; rw [put_same]
theorem Sl.old {F : Fb} {n y x g : Nat} (h : Sl F n y) (hn : 1 ≤ n) (hg : 1 ≤ g) (hgy : g < y) : (F.opened 0 x).chk 1 0 g = 7 ∧ (F.opened 0 x).number 1 0 g = 0 := by
  have h1 : (F.opened 0 x).chk 1 0 g = 7 := by
    unfold Fb.chk
    rw [if_pos ⟨rfl, by omega, by omega, by omega⟩]
    unfold Tb.chk
    have e1 : ¬ ((0 : Int) < 0 ∨ ((F.opened 0 x).t.n : Int) ≤ 0) := by
      have : (F.opened 0 x).t.n = n := h.n_eq
      omega
    rw [if_neg e1, if_neg]
    rintro ⟨_, h2⟩
    have : (F.opened 0 x).t.g (Int.toNat 0) = y := h.at_
    rw [this] at h2
    omega
  refine ⟨h1, ?_⟩
  unfold Fb.number
  rw [Fb.look_none (by rw [h1]; omega)]; rfl
/-- The files that are gone. -/
def goneL (f i : Nat) : List Ro := (List.range i).map fun j => ⟨1, 0, ((f + j : Nat) : Int)⟩
theorem goneL_len (f i : Nat) : (goneL f i).length = i := by simp [goneL]
theorem goneL_snoc (f i : Nat) : goneL f (i + 1) = goneL f i ++ [⟨1, 0, ((f + i : Nat) : Int)⟩] := by simp [goneL, List.range_succ]
theorem goneL_at (f i j : Nat) (h : j < (goneL f i).length) : (goneL f i)[j] = ⟨1, 0, ((f + j : Nat) : Int)⟩ := by simp [goneL]
/-- The state of the loop. -/
structure StS (w0 w : World) (b k m : Nat) (F : Fb) (p : Option Addr) (c f i : Nat) : Prop where
  s : FSt w0 w b k m F
  r : w.ownsRow w0.heap.size 25 3 (.slice p i c) (goneL f i).length (ocls (goneL f i))
theorem StS.quiet {w0 w w' : World} {b k m : Nat} {F : Fb} {p : Option Addr} {c f i : Nat} (h : StS w0 w b k m F p c f i) (q : Below w.heap.size w w') : StS w0 w' b k m F p c f i := ⟨h.s.quiet q, own_below h.r q⟩
theorem StS.step {w0 w w' : World} {b k m : Nat} {F G : Fb} {p : Option Addr} {c f i : Nat} (h : StS w0 w b k m F p c f i) (q : Kept (FFoot b k m) w w') (hs : FSt w0 w' b k m G) : StS w0 w' b k m G p c f i := ⟨hs, own_keep h.s.f h.r q⟩
theorem StS.rd {w0 w : World} {b k m : Nat} {F : Fb} {p : Option Addr} {c f i : Nat} (h : StS w0 w b k m F p c f i) : RdO w (.slice p i c) (goneL f i) := RdO.of_own h.r

set_option maxHeartbeats 4000000 in
set_option maxRecDepth 100000 in
theorem fSta_walk (x0 x1 x2 x3 : Int) (w : World) (h00 : 0 ≤ x0) (h01 : x0 ≤ 255) (h10 : 0 ≤ x1) (h11 : x1 ≤ 4294967295) (h20 : 0 ≤ x2) (h21 : x2 ≤ 65535) (h30 : 0 ≤ x3) (h31 : x3 ≤ 255) :
    Calls Try.prog 5 #[.int .u8 x0, .int .u32 x1, .int .u16 x2, .int .u8 x3] w fun e w' => e = .returned (.bool true) ∧ Below w.heap.size w w' := by
  obtain ⟨s, rfl⟩ : ∃ s : Nat, x0 = s := ⟨x0.toNat, by omega⟩
  obtain ⟨x, rfl⟩ : ∃ x : Nat, x2 = x := ⟨x2.toNat, by omega⟩
  obtain ⟨t, ht⟩ : ∃ t : Nat, (1 : Int) + x3 % 20 = t := ⟨(1 + x3 % 20).toNat, by omega⟩
  obtain ⟨f1, hf1⟩ : ∃ f1 : Nat, min x1 4294966295 = f1 := ⟨(min x1 4294966295).toNat, by omega⟩
  have ht2 : (t : Int) ≤ 20 := by omega
  have hr : 0 ≤ x3 % 20 ∧ x3 % 20 ≤ 19 := by omega
  obtain ⟨hr0, hr1⟩ := hr
  obtain ⟨f, hf⟩ : ∃ f : Nat, max f1 1 = f := ⟨_, rfl⟩
  have hfb : 1 ≤ f ∧ f ≤ 4294966295 := by omega
  have HF := Lib.hid hfb
  obtain ⟨n, hn⟩ : ∃ n, 1 + s % 64 = n := ⟨_, rfl⟩
  have hnb : 1 ≤ n ∧ n ≤ 64 := by omega
  have HNb := Lib.hid hnb
  have BG : Hid (∀ W, Calls Try.prog 21 #[.int .u8 s, .int .u32 f1] W (BgP n f W)) := fun W => by
    have := begun_ok s f1 W (by omega) (by omega)
    rw [hn, hf] at this; exact this
  clear hn hf hfb hnb
  go_enter Try.func5, Try.ntmps5
  go_wp2_with (go_at_call 21; refine (BG.out _).mono ?_; rintro e w1 ⟨b, k, m, rfl, S0⟩)
  clear BG
  have R0 : Hid (∃ F, StS w w1 b k m F none 0 f 0 ∧ Sl F n (f + 0)) := ⟨_, ⟨S0.out, World.ownsRow_nil _ _ _ _⟩, Sl.fresh _ HNb.out.1⟩
  clear S0
  go_loopw [12, 36] (fun v u wr => ∃ (i : Nat) (p : Option Addr) (c : Nat), i ≤ t ∧ v = .slice p i c ∧ u = .int .i64 i ∧ Hid (∃ F, StS w wr b k m F p c f i ∧ Sl F n (f + i))) (fun _ u _ => t - (intOf u).toNat)
  case atStart => exact ⟨0, none, 0, Nat.zero_le _, rfl, rfl, R0.out⟩
  case round =>
    clear R0
    obtain ⟨i, p, c, hi, rfl, rfl, HI⟩ := hrel
    by_cases hlt : i < t
    · obtain ⟨F, hS, hL⟩ := HI.out
      obtain ⟨r, hfree⟩ := free_head (T := F.t) (i := 0) (fun j hj => absurd hj (Nat.not_lt_zero _)) (hL.st 0 HNb.out.1) (by rw [hL.n_eq]; exact HNb.out.1)
      obtain ⟨o1, o2, o3, o4, o5⟩ := Fb.opn_at hfree x
      obtain ⟨y, hy⟩ : ∃ y, f + i = y := ⟨_, rfl⟩
      have hy0 : (1 : Int) ≤ y := by have := HF.out; omega
      have hy1 : (y : Int) ≤ 4294966400 := by have := HF.out; omega
      rw [hL.at_, hy] at o3
      have han : 0 < F.t.n := by rw [hL.n_eq]; exact HNb.out.1
      have hc := Fb.chk_opened hS.s.f.ok han x
      rw [hL.at_, hy] at hc
      have OP := Lib.hid ((open_s x 1 0 y 0 hS.s (by omega) (by rw [o1]; rfl) (by rw [o2]; rfl) (by rw [o3]) o4).mono fun e w' (h : _ ∧ _ ∧ _) => (⟨h.1, hS.step h.2.2.out (o5 ▸ h.2.1.out)⟩ : _ ∧ StS w w' b k m (F.opened 0 x) p c f i))
      have hrg : RgO 1 0 y := ⟨by omega, by omega, by omega, by omega, by omega, by omega⟩
      have OLD : Hid (∀ (j : Nat), j < i → RgO 1 0 ((f + j : Nat) : Int) ∧ (F.opened 0 x).chk 1 0 ((f + j : Nat) : Int) = 7 ∧ (F.opened 0 x).number 1 0 ((f + j : Nat) : Int) = 0) := fun j hj => by
        have h1 := hL.old (x := x) (g := f + j) HNb.out.1 (by have := HF.out; omega) (by omega)
        exact ⟨⟨by omega, by omega, by omega, by omega, by omega, by have := HF.out; omega⟩, h1⟩
      have NUM : Hid ((F.opened 0 x).number 1 0 y = x) := by
        show ((F.opened 0 x).look 1 ((0 : Nat) : Int) y).getD 0 = x
        rw [Fb.look_open hc]
        simp [Fb.opened, put_same]
      have NXT : Hid (Sl ((F.opened 0 x).closed 1 0 y) n (f + (i + 1))) := by
        rw [show (F.opened 0 x).closed 1 0 (y : Int) = (F.opened 0 x).close 0 from Fb.closed_of (i := 0) hc]
        have := hL.step (x := x) (by omega)
        rw [← Nat.add_assoc]; exact this
      have HC := Lib.hid hc
      have HY := Lib.hid hy
      generalize F.opened 0 x = G at *
      clear hS hL hfree o1 o2 o3 o4 o5 hc han HI hy
      go_wp2_with (go_at_call 14; refine OP.out.mono ?_; rintro e w5 ⟨rfl, S5⟩; have T5 := Lib.hid (S5.quiet ((Below.refl _ _).alloc (Nat.le_refl _) (.cells #[.int .i64 1, .int .i64 0, .int .u32 y] 25))); have A5 := Lib.hid (Bk.new w5 25 #[.int .i64 1, .int .i64 0, .int .u32 y]); clear S5)
      clear OP
      generalize w5.heap.size = A at *
      generalize w5.alloc (.cells #[.int .i64 1, .int .i64 0, .int .u32 y] 25) = w6 at *
      obtain ⟨a0, a1, a2, a3⟩ := ob_cells A5.out
      go_cut [68] from 46 to 67 (fun v wx => v = .bool false ∧ ∃ q, wx = w6.drewN q)
      case first =>
        rcases Nat.eq_zero_or_pos i with rfl | hpos
        · go_quiet (fail)
          go_wp2
          go_meet
          exact ⟨rfl, _, rfl⟩
        · obtain ⟨i', rfl⟩ : ∃ i', i = i' + 1 := ⟨i - 1, by omega⟩
          have hl' : i' < (goneL f (i' + 1)).length := by rw [goneL_len]; omega
          obtain ⟨g, off, rfl, hg, hc⟩ := T5.out.rd.cell hl'
          rw [goneL_at] at hc
          obtain ⟨d0, d1, d2⟩ := hc
          simp only at d0 d1 d2
          obtain ⟨z, hz⟩ : ∃ z : Nat, f + i' = z := ⟨_, rfl⟩
          have hyz : (y : Int) = z + 1 := by have := HY.out; omega
          rw [hz] at d2
          have hyz2 : ((y : Int) != (z : Int) + 1) = false := by rw [hyz]; simp
          go_quiet (fail)
          go_wp2
          go_meet
          exact ⟨by first | rfl | (congr 1; simp; omega), _, rfl⟩
      case rest =>
        obtain ⟨rfl, q, rfl⟩ := hcut
        have T6 := Lib.hid (T5.out.quiet (bel_drewN (Below.refl _ w6) q))
        have A6 : Hid (Bk (w6.drewN q) A 25 #[.int .i64 1, .int .i64 0, .int .u32 y]) := A5.out.same rfl
        clear T5 A5 a0 a1 a2 a3
        generalize w6.drewN q = w7 at *
        go_wp2
        go_loopw [71] (fun u wr => ∃ j : Nat, j ≤ i ∧ u = .int .i64 j ∧ Hid (StS w wr b k m G p c f i) ∧ Hid (Bk wr A 25 #[.int .i64 1, .int .i64 0, .int .u32 y])) (fun u _ => i - (intOf u).toNat)
        case atStart => exact ⟨0, Nat.zero_le _, rfl, T6.out, A6.out⟩
        case round =>
          clear T6 A6
          obtain ⟨j, hj, rfl, HS, HA⟩ := hrel
          by_cases hlj : j < i
          · obtain ⟨g, off, rfl, hg, hcc⟩ := HS.out.rd.cell (show j < (goneL f i).length by rw [goneL_len]; exact hlj)
            rw [goneL_at] at hcc
            obtain ⟨d0, d1, d2⟩ := hcc
            simp only at d0 d1 d2
            obtain ⟨e1, e2, e3⟩ := OLD.out j hlj
            generalize ((f + j : Nat) : Int) = z at *
            have NM := Lib.hid (fun W (hW : StS w W b k m G (some ⟨g, off, none⟩) c f i) => (number_s 1 0 z 0 7 hW.s e1 e3 e2).mono fun e w' (h : _ ∧ _ ∧ _) => (⟨h.1, hW.quiet h.2.2.out, h.2.2.out⟩ : _ ∧ StS w w' b k m G (some ⟨g, off, none⟩) c f i ∧ Below W.heap.size W w'))
            have CL := Lib.hid (fun W (hW : StS w W b k m G (some ⟨g, off, none⟩) c f i) => (close_s 1 0 z 7 hW.s e1 e2).mono fun e w' (h : _ ∧ _ ∧ _) => (⟨h.1, hW.step h.2.2.out (by have := h.2.1.out; unfold Fb.closed at this; rw [if_neg (by rw [e2]; omega)] at this; exact this), hW.s.f, h.2.2.out⟩ : _ ∧ StS w w' b k m G (some ⟨g, off, none⟩) c f i ∧ FW W b k m G ∧ Kept (FFoot b k m) W w'))
            clear e1 e2 e3
            go_wp2_with (first
              | (go_at_call 27; refine (NM.out _ (HS.out.quiet ((Below.refl _ _).alloc (Nat.le_refl _) _))).mono ?_; rintro e w8 ⟨rfl, hs8, hb8⟩; have S8 := Lib.hid hs8; have A8 := Lib.hid ((HA.out.up _).below hb8); obtain ⟨q0, q1, q2, q3⟩ := box_o hb8; clear hs8 hb8)
              | (go_at_call 16; refine (CL.out _ S8.out).mono ?_; rintro e w9 ⟨rfl, hs9, hf9, hk9⟩; have S9 := Lib.hid hs9; have A9 := Lib.hid (A8.out.kept hk9 (hf9.box A8.out (by decide) (by decide))); clear hs9 hf9 hk9))
            go_roundw
            case rel => exact ⟨j + 1, by omega, by go_num, S9.out, A9.out⟩
            case measure => simp [intOf]; omega
          · obtain rfl : j = i := by omega
            obtain ⟨a0, a1, a2, a3⟩ := ob_cells HA.out
            have NM := Lib.hid (fun W (hW : StS w W b k m G p c f j) => (number_s 1 0 y x 0 hW.s hrg NUM.out HC.out).mono fun e w' (h : _ ∧ _ ∧ _) => (⟨h.1, hW.quiet h.2.2.out, h.2.2.out⟩ : _ ∧ StS w w' b k m G p c f j ∧ Below W.heap.size W w'))
            have CL := Lib.hid (fun W (hW : StS w W b k m G p c f j) => (close_s 1 0 y 0 hW.s hrg HC.out).mono fun e w' (h : _ ∧ _ ∧ _) => (⟨h.1, hW.step h.2.2.out h.2.1.out, hW.s.f, h.2.2.out⟩ : _ ∧ StS w w' b k m (G.closed 1 0 y) p c f j ∧ FW W b k m G ∧ Kept (FFoot b k m) W w'))
            go_wp2_with (first
              | (go_at_call 27; refine (NM.out _ HS.out).mono ?_; rintro e w8 ⟨rfl, hs8, hb8⟩; have S8 := Lib.hid hs8; have A8 := Lib.hid (HA.out.below hb8); clear a0 a1 a2 a3; obtain ⟨a0, a1, a2, a3⟩ := ob_cells A8.out; clear hs8 hb8)
              | (go_at_call 16; refine (CL.out _ S8.out).mono ?_; rintro e w9 ⟨rfl, hs9, hf9, hk9⟩; have S9 := Lib.hid hs9; have A9 := Lib.hid (A8.out.kept hk9 (hf9.box A8.out (by decide) (by decide))); clear a0 a1 a2 a3; obtain ⟨a0, a1, a2, a3⟩ := ob_cells A9.out; clear hs9 hf9 hk9)
              | (at_builtin; refine wpList_app_o rfl _ _ rfl ⟨1, 0, y⟩ rfl rfl ?c1 (S9.out.r.alloc _) (Bk.new w9 25 #[.int .i64 1, .int .i64 0, .int .u32 y]) ?c2 ?c3 ?_))
            case c1 => exact goneL_len _ _
            case c2 => rw [goneL_len]; omega
            case c3 => have := S9.out.s.bel.size; simp; omega
            intro p' c' w10 HAp
            have HN : Hid (StS w w10 b k m (G.closed 1 0 y) p' c' f (j + 1)) := by
              obtain ⟨h1, h2⟩ := HAp.out
              have S10 := S9.out.quiet ((Below.refl _ w9).alloc (Nat.le_refl _) (.cells #[.int .i64 1, .int .i64 0, .int .u32 y] 25))
              have e : goneL f (j + 1) = goneL f j ++ [⟨1, 0, (y : Int)⟩] := by rw [goneL_snoc, show f + j = y from HY.out]
              rw [← e] at h1
              refine ⟨?_, h1⟩
              exact S10.s.app S10.r h2
            clear HAp
            go_wp2
            go_roundw
            case rel => exact ⟨j + 1, p', c', by omega, rfl, by go_num, _, HN.out, NXT.out⟩
            case measure => simp [intOf]; omega
    · obtain rfl : i = t := by omega
      obtain ⟨F, hS, hL⟩ := HI.out
      have hheld := held_none (T := F.t) fun j hj => by rw [hL.st j (by rw [← hL.n_eq]; exact hj)]; omega
      have LN : Hid (Calls Try.prog 30 #[.pointer (some ⟨b, 0, none⟩)] wr fun e w' => e = .returned (.int .i64 0) ∧ wr = w') := by
        have := flen_ok b k m F wr hS.s.f
        rw [hheld] at this
        exact this
      have HB := Lib.hid hS.s.bel
      clear hS hL hheld HI
      go_wp2_with (first
        | (go_at_call 30; refine LN.out.mono ?_; rintro e w' ⟨rfl, rfl⟩)
        | (go_at_call 10; refine (works_ok _).mono ?_; rintro e w' ⟨rfl, hb⟩; have H9 := Lib.hid (bel2 HB.out hb); clear hb))
      go_ret
      exact ⟨rfl, H9.out⟩
end Go.Proofs.Ythahmcipkchdjaa
