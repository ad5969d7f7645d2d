/- The contract of the document's Pin. -/
import Derived.Test.YtjhgckaaaonbiaaVc
import Derived.Test.YtjhgckaaaonbiaaVd
import Derived.Test.YtjhgckaaaonbiaaUx
import Derived.Laws.ResultCell
import Derived.Deep.Cut
import Derived.Deep.CutRange
namespace Go.Proofs.Ytjhgckaaaonbiaa
open Go.RowKit

theorem put3 {w : World} {g : Nat} {t : TypeId} {a b c : Value} (h : Bk w g t #[a, b, c]) (x y z : Value) :
    Bk (((w.setCell ⟨g, 0, none⟩ x).setCell ⟨g, 1, none⟩ y).setCell ⟨g, 2, none⟩ z) g t #[x, y, z] ∧ Kept (· = g) w (((w.setCell ⟨g, 0, none⟩ x).setCell ⟨g, 1, none⟩ y).setCell ⟨g, 2, none⟩ z) :=
  ⟨((h.put 0 x).put 1 y).put 2 z, (((Kept.refl _ w).put1 _ _).put1 _ _).put1 _ _⟩
theorem ob3 {w : World} {A : Nat} {x y z : Value} (h : Bk w A 34 #[x, y, z]) : w.cell? ⟨A, 0, none⟩ = some x ∧ w.cell? ⟨A, 1, none⟩ = some y ∧ w.cell? ⟨A, 2, none⟩ = some z := ⟨h.cell 0, h.cell 1, h.cell 2⟩
theorem keep_new {S : Nat → Prop} {a b c : World} (h : Kept S a b) (k : Kept (· = a.heap.size) b c) : Kept S a c :=
  (h.mono (T := fun g => S g ∨ g = a.heap.size) fun _ _ x => .inl x).trans (k.mono fun _ _ x => .inr x) |>.mono fun g hg x => by rcases x with x | x; exact x; omega
theorem dpin_ret {B : Nat} {E : Int} {W : World} {x y z : Value} {P : Ending → World → Prop} {a : Act} (hN : Bk W B 34 #[x, y, z]) (h4 : a.tmps[4]? = some (.pointer (some ⟨B, 0, none⟩))) (h5 : a.tmps[5]? = some (.int .i64 E)) (hd : a.defers = [])
    (hP : P (.returned (.tuple #[.agg #[x, y, z], .int .i64 E])) W) : bodyPost Try.prog Try.f14 P Exit.ret a W := by
  have c0 : W.cell? ⟨B, 0, none⟩ = some x := hN.cell 0
  have c1 : W.cell? ⟨B, 1, none⟩ = some y := hN.cell 1
  have c2 : W.cell? ⟨B, 2, none⟩ = some z := hN.cell 2
  have e4 : a.tmps.getD 4 undef = .pointer (some ⟨B, 0, none⟩) := by rw [Array.getD_eq_getD_getElem?, h4]; rfl
  have e5 : a.tmps.getD 5 undef = .int .i64 E := by rw [Array.getD_eq_getD_getElem?, h5]; rfl
  refine bodyPost_ret (v := .tuple #[.agg #[x, y, z], .int .i64 E]) ?_ hd hP
  rw [results_cell_tmp rfl, e4, e5]
  go_simp
theorem pinned_bx {F : Po} {i x j : Nat} (h : j ≠ i) : (F.put i x).t.s j = F.t.s j ∧ (F.put i x).t.g j = F.t.g j ∧ (F.put i x).bx j = F.bx j := by
  have es : (F.put i x).t.s j = F.t.s j := by show put F.t.s i 1 j = _; exact put_other h
  refine ⟨es, rfl, ?_⟩
  unfold Po.bx
  rw [es]
  show (if F.t.s j = 1 then put F.m i x j else 0) = _
  rw [put_other h]
def DPinP (c d : Nat) (F : Po) (x : Int) (w : World) (e : Ending) (w' : World) : Prop := e = .returned (.tuple #[.agg #[.int .i64 (F.pK x), .int .i64 (F.pI x), .int .u32 (F.pG x)], .int .i64 (F.can x)]) ∧ DSetQ c d (F.pin x) w w'
theorem dpin_arg (c d : Nat) (F : Po) (x : Int) (hx2 : x < 1 ∨ 65536 < x) (w : World) (h : DW w c d F) : Calls Try.prog 14 #[.pointer (some ⟨c, 0, none⟩), .int .i64 x] w (DPinP c d F x w) := by
  have hcan : F.can x = 2 := by unfold Po.can; rw [if_pos hx2]
  obtain ⟨e1, e2, e3, e4⟩ := Po.pin_ne (P := F) (x := x) (by rw [hcan]; decide)
  unfold DPinP
  rw [hcan, e1, e2, e3, e4]
  have HV := Lib.hid (dvalid_eq c d F (w.alloc (.cells #[.int .i64 0, .int .i64 0, .int .u32 0] 34)) (h.below ((Below.refl _ w).alloc (Nat.le_refl _) _)))
  have HQ : Hid (∀ W, Below w.heap.size w W → DSetQ c d F w W) := fun W hW => h.quietQ hW
  clear h hcan e1 e2 e3 e4
  rcases hx2 with hx2 | hx2
  all_goals
    go_enter Try.func14, Try.ntmps14
    go_wp2_with (go_at_call 30; refine HV.out.mono ?_; rintro e w' ⟨rfl, rfl⟩)
    refine bodyPost_ret (v := .tuple #[.agg #[.int .i64 0, .int .i64 0, .int .u32 0], .int .i64 2]) (by simp [results, Try.results14, go_sem]) rfl ⟨rfl, HQ.out _ ?_⟩
    exact (Below.refl _ w).alloc (Nat.le_refl _) _
/-- A box of an id's four cells. -/
structure Bx (wr w : World) (a b g x : Value) : Prop where
  bk : Bk w wr.heap.size 78 #[a, b, g, x]
  bel : Below wr.heap.size wr w
theorem Bx.new (wr : World) (x y z u : Value) : Bx wr (wr.alloc (.cells #[x, y, z, u] 78)) x y z u :=
  ⟨Bk.new wr _ _, (Below.refl _ wr).alloc (Nat.le_refl _) _⟩
set_option maxHeartbeats 4000000 in
set_option maxRecDepth 1000000 in
theorem dpin_in (c d x : Nat) (F : Po) (hx1 : 1 ≤ x) (hx2 : x ≤ 65536) (w : World) (h : DW w c d F) : Calls Try.prog 14 #[.pointer (some ⟨c, 0, none⟩), .int .i64 x] w (DPinP c d F x w) := by
  obtain ⟨n, hn⟩ : ∃ n, F.t.n = n := ⟨_, rfl⟩
  have hnb : n ≤ 64 := by rw [← hn]; exact h.ok.hi
  have hst := h.ok.t.st
  have hus := h.ok.used_le
  have hrm := h.ok.room
  obtain ⟨U, hU⟩ : ∃ U, F.used = U := ⟨_, rfl⟩
  obtain ⟨rm, hrm2⟩ : ∃ rm, F.room = rm := ⟨_, rfl⟩
  have hU2 : (U : Int) ≤ 4194304 := by omega
  have hx' : ¬ 65536 < (x : Int) := by omega
  have hx'' : ¬ (x : Int) < 1 := by omega
  have hx3 : (x : Int) ≤ 65536 := by omega
  have hct := h.ct
  have hdt := h.dt
  have HN := Lib.hid hn
  have HR := Lib.hid hrm2
  have FULL : Hid ((∀ j, j < n → F.t.s j = 0 → ¬ U + x ≤ rm) → ∀ W, DW W c d F → Kept (· = c) w W → DPinP c d F x w (.returned (.tuple #[.agg #[.int .i64 0, .int .i64 0, .int .u32 0], .int .i64 4])) W) := fun ha W h1 h2 => by
    have hcan : F.can x = 4 := by
      unfold Po.can
      rw [if_neg (by omega)]
      by_cases hf : (F.room : Int) < F.used + x
      · rw [if_pos hf]
      · rw [if_neg hf, free_none (T := F.t) (fun j hj e => ha j (by omega) e (by omega))]
    obtain ⟨e1, e2, e3, e4⟩ := Po.pin_ne (P := F) (x := x) (by rw [hcan]; decide)
    unfold DPinP
    rw [hcan, e1, e2, e3, e4]
    exact ⟨rfl, d, .inl rfl, h1, h2⟩
  have AT : Hid (∀ i, i < n → (∀ j, j < i → F.t.s j = 0 → ¬ U + x ≤ rm) → F.t.s i = 0 → U + x ≤ rm → ∀ W, DSetQ c d (F.put i x) w W → DPinP c d F x w (.returned (.tuple #[.agg #[.int .i64 2, .int .i64 i, .int .u32 (F.t.g i)], .int .i64 0])) W) := fun i hi ha hs hf W h1 => by
    obtain ⟨r, hr⟩ := free_head (T := F.t) (fun j hj e => ha j hj e hf) hs (by rw [hn]; exact hi)
    have hcan : F.can x = 0 := by
      unfold Po.can
      rw [if_neg (by omega), if_neg (by omega), hr]
    obtain ⟨e1, e2, e3, e4⟩ := Po.pin_zero hcan hr
    unfold DPinP
    rw [hcan, e1, e2, e3, e4, Int.toNat_natCast]
    exact ⟨rfl, h1⟩
  have SET : Hid (∀ i, i < n → F.t.s i = 0 → ∀ W, DW W c d F → Calls Try.prog 32 #[.pointer (some ⟨c, 0, none⟩), .int .i64 i, .agg #[.bool true, .bool false, .int .u32 (F.t.g i), .int .i64 x]] W fun e w' => e = .returned (.tuple #[]) ∧ Hid (DSetP c (F.put i x) W w')) := fun i hi hs W hW => by
    refine dset_ok c d i 1 (F.t.g i) x F (F.put i x) W hW (by omega) (hW.ok.put i hx2) rfl rfl (fun j hj => pinned_bx hj) ?_
    simp [Po.put, Tb.took, put_same, Po.bx]
  have USED : Hid (∀ W m, DW W c d F → Calls Try.prog 31 #[.pointer (some ⟨c, 0, none⟩)] (W.drewN m) fun e w' => e = .returned (.int .i64 U) ∧ w' = W.drewN m) := fun W m hW => by
    have := dused_eq c d F (W.drewN m) (hW.same rfl rfl)
    rw [hU] at this
    exact this.mono fun e w' h => ⟨h.1, h.2.symm⟩
  have HV := Lib.hid (dvalid_eq c d F (w.alloc (.cells #[.int .i64 0, .int .i64 0, .int .u32 0] 34)) (h.below ((Below.refl _ w).alloc (Nat.le_refl _) _)))
  have D0 : Hid (DW (w.alloc (.cells #[.int .i64 0, .int .i64 0, .int .u32 0] 34)) c d F) := h.below ((Below.refl _ w).alloc (Nat.le_refl _) _)
  have B0 : Hid (Bk (w.alloc (.cells #[.int .i64 0, .int .i64 0, .int .u32 0] 34)) w.heap.size 34 #[.int .i64 0, .int .i64 0, .int .u32 0]) := Bk.new w _ _
  have K0 : Hid (Below w.heap.size w (w.alloc (.cells #[.int .i64 0, .int .i64 0, .int .u32 0] 34))) := (Below.refl _ w).alloc (Nat.le_refl _) _
  clear h hn hus hrm hU hrm2 hx1 hx2
  go_enter Try.func14, Try.ntmps14
  go_wp2_with (go_at_call 30; refine HV.out.mono ?_; rintro e w' ⟨rfl, rfl⟩)
  generalize w.alloc (.cells #[.int .i64 0, .int .i64 0, .int .u32 0] 34) = w1 at *
  go_loopw [6] (fun u wr => ∃ i : Nat, i ≤ n ∧ u = .int .i64 i ∧ Hid (∀ j, j < i → F.t.s j = 0 → ¬ U + x ≤ rm) ∧ Hid (DW wr c d F) ∧ Hid (Bk wr w.heap.size 34 #[.int .i64 0, .int .i64 0, .int .u32 0]) ∧ Hid (Below w.heap.size w wr)) (fun u _ => n - (intOf u).toNat)
  case atStart => exact ⟨0, Nat.zero_le _, rfl, (fun j hj => absurd hj (Nat.not_lt_zero _) : ∀ j, j < 0 → F.t.s j = 0 → ¬ U + x ≤ rm), D0.out, B0.out, K0.out⟩
  case round =>
    clear D0 B0 K0 HV
    obtain ⟨i, hi, rfl, HA, HD, HB, HK⟩ := hrel
    obtain ⟨cap, c0, c1, c2, hc1, hc2⟩ := HD.out.c0
    rw [HN.out] at c2 hc1
    rw [HR.out] at c1
    by_cases hlt : i < n
    · obtain ⟨i0, i1, i2, i3⟩ := HD.out.ci (i := i) (by rw [HN.out]; exact hlt)
      have hsi := hst i
      have hs3 : F.t.s i = 0 ∨ F.t.s i = 1 ∨ F.t.s i = 2 := by omega
      clear hsi c0
      rcases hs3 with hs | hs | hs
      · rw [hs] at i0 i1
        have j0 : wr.cell? ⟨d, i * 4, none⟩ = some (.bool false) := i0
        have j1 : wr.cell? ⟨d, i * 4 + 1, none⟩ = some (.bool false) := i1
        have HSE := Lib.hid (SET.out i hlt hs)
        have hgm := HD.out.ok.t.gm i
        by_cases hfit : U + x ≤ rm
        · have AI := Lib.hid (AT.out i hlt HA.out hs hfit)
          have hf2 : (U : Int) + x ≤ rm := by omega
          clear i0 i1 hs hfit
          generalize F.t.g i = fg at *
          generalize F.bx i = fx at *
          go_upto_region 9 with fail
          have hbx := Bx.new wr (.bool false) (.bool false) (.int .u32 fg) (.int .i64 fx)
          have c15 := cell_keeps hbx.bel c1
          have c25 := cell_keeps hbx.bel c2
          generalize wr.alloc (.cells #[.bool false, .bool false, .int .u32 fg, .int .i64 fx] 78) = w5 at *
          have HBX := Lib.hid hbx
          have hbl := hbx.bk.lt
          have b0 : w5.cell? ⟨wr.heap.size, 0, none⟩ = some (.bool false) := hbx.bk.cell 0
          have b1 : w5.cell? ⟨wr.heap.size, 1, none⟩ = some (.bool false) := hbx.bk.cell 1
          have b2 : w5.cell? ⟨wr.heap.size, 2, none⟩ = some (.int .u32 fg) := hbx.bk.cell 2
          have HU5 := Lib.hid (fun m => USED.out w5 m (HD.out.below HBX.out.bel))
          clear hbx j0 j1 i2 i3 c1 c2
          go_quiet ((go_at_call 31; exact Calls.quiet_of_same (HU5.out _)))
          have HD6 := Lib.hid (HD.out.below (bel_drewN HBX.out.bel nq))
          have B6 := Lib.hid (HB.out.below (bel_drewN HBX.out.bel nq))
          have X6 : Hid (Bk (w5.drewN nq) wr.heap.size 78 #[.bool false, .bool false, .int .u32 fg, .int .i64 fx]) := HBX.out.bk.same rfl
          have K6 := Lib.hid (bel2 HK.out (bel_drewN HBX.out.bel nq))
          have hsz := HK.out.size
          have S6 : Hid (c < wr.heap.size ∧ w.heap.size ≤ (w5.drewN nq).heap.size) := ⟨HD.out.ct, K6.out.size⟩
          go_upto_region 10 with fail
          generalize w5.drewN nq = w6 at *
          clear b0 b1 b2 c15 c25
          have b2 : w6.cell? ⟨wr.heap.size, 2, none⟩ = some (.int .u32 fg) := X6.out.cell 2
          go_wp2_with (go_at_call 32; refine (HSE.out w6 HD6.out).mono ?_; rintro e w7 ⟨rfl, hp⟩; obtain ⟨d', p1, p2, p3⟩ := hp.out; have D7 := Lib.hid p2; have P7 := Lib.hid p3; have L7 := Lib.hid p1; have hcA := S6.out.1; have b2 : w7.cell? ⟨wr.heap.size, 2, none⟩ = some (.int .u32 fg) := (X6.out.kept p3 (by omega)).cell 2; have B7 := Lib.hid (B6.out.kept p3 (by omega)); obtain ⟨k0, k1, k2⟩ := ob3 B7.out; have kf0 := B7.out.frozen 0; have kf1 := B7.out.frozen 1; have kf2 := B7.out.frozen 2; clear hp p1 p2 p3)
          obtain ⟨hN, hK7⟩ := put3 B7.out (.int .i64 2) (.int .i64 i) (.int .u32 fg)
          have hs6 := S6.out.2
          have hl7 := L7.out
          have hB6l := B6.out.lt
          refine dpin_ret hN rfl rfl rfl (AI.out _ ⟨d', .inr (by omega), D7.out.kept hK7 (by omega) (by omega), ?_⟩)
          exact keep_new ((Kept.of_below K6.out).trans P7.out) hK7
        · have HS : Hid (∀ j, j < i + 1 → F.t.s j = 0 → ¬ U + x ≤ rm) := fun j hj hj0 => by
            by_cases e : j = i
            · exact hfit
            · exact HA.out j (by omega) hj0
          have hf2 : ¬ (U : Int) + x ≤ rm := by omega
          clear i0 i1 hs hfit HSE
          generalize F.t.g i = fg at *
          generalize F.bx i = fx at *
          go_upto_region 9 with fail
          have hbx := Bx.new wr (.bool false) (.bool false) (.int .u32 fg) (.int .i64 fx)
          have c15 := cell_keeps hbx.bel c1
          generalize wr.alloc (.cells #[.bool false, .bool false, .int .u32 fg, .int .i64 fx] 78) = w5 at *
          have HBX := Lib.hid hbx
          have b0 : w5.cell? ⟨wr.heap.size, 0, none⟩ = some (.bool false) := hbx.bk.cell 0
          have b1 : w5.cell? ⟨wr.heap.size, 1, none⟩ = some (.bool false) := hbx.bk.cell 1
          have HU5 := Lib.hid (fun m => USED.out w5 m (HD.out.below HBX.out.bel))
          clear hbx j0 j1 i2 i3 c1 c2
          go_quiet ((go_at_call 31; exact Calls.quiet_of_same (HU5.out _)))
          go_wp2_with fail
          go_roundw
          case rel => exact ⟨i + 1, by omega, by go_num, HS.out, HD.out.below (bel_drewN HBX.out.bel _), HB.out.below (bel_drewN HBX.out.bel _), bel2 HK.out (bel_drewN HBX.out.bel _)⟩
          case measure => simp [intOf]; omega
      · rw [hs] at i0 i1
        have j0 : wr.cell? ⟨d, i * 4, none⟩ = some (.bool true) := i0
        have j1 : wr.cell? ⟨d, i * 4 + 1, none⟩ = some (.bool false) := i1
        have HS : Hid (∀ j, j < i + 1 → F.t.s j = 0 → ¬ U + x ≤ rm) := fun j hj hj0 => by
          by_cases e : j = i
          · subst e; omega
          · exact HA.out j (by omega) hj0
        clear i0 i1 hs
        generalize F.t.g i = fg at *
        generalize F.bx i = fx at *
        go_upto_region 9 with fail
        have hbx := Bx.new wr (.bool true) (.bool false) (.int .u32 fg) (.int .i64 fx)
        generalize wr.alloc (.cells #[.bool true, .bool false, .int .u32 fg, .int .i64 fx] 78) = w5 at *
        have HBX := Lib.hid hbx
        have b0 : w5.cell? ⟨wr.heap.size, 0, none⟩ = some (.bool true) := hbx.bk.cell 0
        clear hbx j0 j1 i2 i3
        go_quiet (fail)
        go_wp2_with fail
        go_roundw
        case rel => exact ⟨i + 1, by omega, by go_num, HS.out, HD.out.below (bel_drewN HBX.out.bel _), HB.out.below (bel_drewN HBX.out.bel _), bel2 HK.out (bel_drewN HBX.out.bel _)⟩
        case measure => simp [intOf]; omega
      · rw [hs] at i0 i1
        have j0 : wr.cell? ⟨d, i * 4, none⟩ = some (.bool false) := i0
        have j1 : wr.cell? ⟨d, i * 4 + 1, none⟩ = some (.bool true) := i1
        have HS : Hid (∀ j, j < i + 1 → F.t.s j = 0 → ¬ U + x ≤ rm) := fun j hj hj0 => by
          by_cases e : j = i
          · subst e; omega
          · exact HA.out j (by omega) hj0
        clear i0 i1 hs
        generalize F.t.g i = fg at *
        generalize F.bx i = fx at *
        go_upto_region 9 with fail
        have hbx := Bx.new wr (.bool false) (.bool true) (.int .u32 fg) (.int .i64 fx)
        generalize wr.alloc (.cells #[.bool false, .bool true, .int .u32 fg, .int .i64 fx] 78) = w5 at *
        have HBX := Lib.hid hbx
        have b0 : w5.cell? ⟨wr.heap.size, 0, none⟩ = some (.bool false) := hbx.bk.cell 0
        have b1 : w5.cell? ⟨wr.heap.size, 1, none⟩ = some (.bool true) := hbx.bk.cell 1
        clear hbx j0 j1 i2 i3
        go_quiet (fail)
        go_wp2_with fail
        go_roundw
        case rel => exact ⟨i + 1, by omega, by go_num, HS.out, HD.out.below (bel_drewN HBX.out.bel _), HB.out.below (bel_drewN HBX.out.bel _), bel2 HK.out (bel_drewN HBX.out.bel _)⟩
        case measure => simp [intOf]; omega
    · obtain rfl : i = n := by omega
      have FU := Lib.hid (FULL.out HA.out)
      obtain ⟨k0, k1, k2⟩ := ob3 HB.out
      have kf0 := HB.out.frozen 0
      have kf1 := HB.out.frozen 1
      have kf2 := HB.out.frozen 2
      go_wp2_with fail
      obtain ⟨hN, hK6⟩ := put3 HB.out (.int .i64 0) (.int .i64 0) (.int .u32 0)
      refine dpin_ret hN rfl rfl rfl (FU.out _ (HD.out.kept hK6 (fun e => by omega) (fun e => by omega)) ?_)
      have h1 : Kept (· = c) w wr := Kept.of_below HK.out
      exact keep_new h1 hK6
end Go.Proofs.Ytjhgckaaaonbiaa
