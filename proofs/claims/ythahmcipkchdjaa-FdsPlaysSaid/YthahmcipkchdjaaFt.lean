/- The contracts of the document's Number and Close. -/
import Derived.Test.YthahmcipkchdjaaFb
import Derived.Deep.RegionHeld3
namespace Go.Proofs.Ythahmcipkchdjaa
open Go.RowKit

theorem dcheck_ok (c d : Nat) (F : Fb) (x y z : Int) (hr : RgO x y z) (w : World) (h : DW w c d F) : Calls Try.prog 40 #[.pointer (some ⟨c, 0, none⟩), .agg #[.int .i64 x, .int .i64 y, .int .u32 z]] w fun e w' => e = .returned (.int .i64 (F.chk x y z)) ∧ Below w.heap.size w w' := by
  rcases F.chk_cases x y z with ⟨h1, h2⟩ | ⟨h1, h2⟩
  · rw [h2]; exact dcheck_no c d F x y z hr h1 w h
  · rw [h2]
    obtain ⟨rfl, i, g, rfl, rfl, ho⟩ := h1.okn hr
    exact dcheck_file c d i F g ho _ rfl w h
set_option maxHeartbeats 1000000 in
theorem dnumber_no (c d : Nat) (F : Fb) (x y z : Int) (hr : RgO x y z) (h0 : F.chk x y z ≠ 0) (w : World) (h : DW w c d F) : Calls Try.prog 43 #[.pointer (some ⟨c, 0, none⟩), .agg #[.int .i64 x, .int .i64 y, .int .u32 z]] w fun e w' => e = .returned (.tuple #[.int .i64 0, .int .i64 (F.chk x y z)]) ∧ Below w.heap.size w w' := by
  have CK : Hid (∀ W, Below w.heap.size w W → Calls Try.prog 40 #[.pointer (some ⟨c, 0, none⟩), .agg #[.int .i64 x, .int .i64 y, .int .u32 z]] W fun e w' => e = .returned (.int .i64 (F.chk x y z)) ∧ Below W.heap.size W w') := fun W hW => dcheck_ok c d F x y z hr W (h.below hW)
  have hE0 : (F.chk x y z == 0) = false := beq_eq_false_iff_ne.2 h0
  generalize F.chk x y z = E at *
  clear h hr h0
  go_enter Try.func43, Try.ntmps43
  go_wp2_with (go_at_call 40; refine (CK.out _ ((Below.refl _ _).alloc (Nat.le_refl _) _)).mono ?_; rintro e w2 ⟨rfl, hb2⟩; have HB := Lib.hid (bel2 ((Below.refl _ _).alloc (Nat.le_refl _) _) hb2); clear hb2)
  go_ret2
  exact ⟨rfl, HB.out⟩
set_option maxHeartbeats 1000000 in
theorem dclose_no (c d : Nat) (F : Fb) (x y z : Int) (hr : RgO x y z) (h0 : F.chk x y z ≠ 0) (w : World) (h : DW w c d F) : Calls Try.prog 17 #[.pointer (some ⟨c, 0, none⟩), .agg #[.int .i64 x, .int .i64 y, .int .u32 z]] w fun e w' => e = .returned (.int .i64 (F.chk x y z)) ∧ Below w.heap.size w w' := by
  have CK : Hid (∀ W, Below w.heap.size w W → Calls Try.prog 40 #[.pointer (some ⟨c, 0, none⟩), .agg #[.int .i64 x, .int .i64 y, .int .u32 z]] W fun e w' => e = .returned (.int .i64 (F.chk x y z)) ∧ Below W.heap.size W w') := fun W hW => dcheck_ok c d F x y z hr W (h.below hW)
  have hE0 : (F.chk x y z == 0) = false := beq_eq_false_iff_ne.2 h0
  generalize F.chk x y z = E at *
  clear h hr h0
  go_enter Try.func17, Try.ntmps17
  go_wp2_with (go_at_call 40; refine (CK.out _ ((Below.refl _ _).alloc (Nat.le_refl _) _)).mono ?_; rintro e w2 ⟨rfl, hb2⟩; have HB := Lib.hid (bel2 ((Below.refl _ _).alloc (Nat.le_refl _) _) hb2); clear hb2)
  go_ret
  exact ⟨rfl, HB.out⟩
set_option maxHeartbeats 2000000 in
theorem dnumber_yes (c d i : Nat) (F : Fb) (w : World) (h : DW w c d F) (hi : i < F.t.n) (hs : F.t.s i = 1) : Calls Try.prog 43 #[.pointer (some ⟨c, 0, none⟩), .agg #[.int .i64 1, .int .i64 i, .int .u32 (F.t.g i)]] w fun e w' => e = .returned (.tuple #[.int .i64 (F.num i), .int .i64 0]) ∧ Below w.heap.size w w' := by
  have a1 := h.ok.hi
  have a3 := h.ok.t.gm i
  have hr : RgO 1 i (F.t.g i) := ⟨by omega, by omega, by omega, by omega, by omega, by omega⟩
  have hck := h.ok.chk_held hi hs
  have CK : Hid (∀ W, Below w.heap.size w W → Calls Try.prog 40 #[.pointer (some ⟨c, 0, none⟩), .agg #[.int .i64 1, .int .i64 i, .int .u32 (F.t.g i)]] W fun e w' => e = .returned (.int .i64 0) ∧ Below W.heap.size W w') := fun W hW => by
    have := dcheck_ok c d F 1 i (F.t.g i) hr W (h.below hW)
    rw [hck] at this; exact this
  have HC : Hid (∀ W, Below w.heap.size w W → DW W c d F) := fun W hW => h.below hW
  have HI := Lib.hid hi
  obtain ⟨n, hn⟩ : ∃ n, F.t.n = n := ⟨_, rfl⟩
  have HN := Lib.hid hn
  have hin : i < n := by omega
  have hnb : n ≤ 64 := by omega
  clear h hr hck hi hs hn a1
  obtain ⟨fx, hfx⟩ : ∃ fx, F.num i = fx := ⟨_, rfl⟩
  have HX := Lib.hid hfx
  rw [hfx]
  clear hfx
  go_enter Try.func43, Try.ntmps43
  go_wp2_with (go_at_call 40; refine (CK.out _ ((Below.refl _ _).alloc (Nat.le_refl _) _)).mono ?_; rintro e w2 ⟨rfl, hb2⟩; have HB := Lib.hid (bel2 ((Below.refl _ _).alloc (Nat.le_refl _) _) hb2); obtain ⟨q0, q1, q2, q3⟩ := box_o hb2; clear hb2)
  obtain ⟨cap, c0, hc1, hc2⟩ := (HC.out w2 HB.out).c0
  obtain ⟨i0, i1, i2, i3⟩ := (HC.out w2 HB.out).ci HI.out
  rw [HN.out] at c0 hc1
  generalize F.t.g i = fg at *
  rw [HX.out] at i3
  go_quiet (fail)
  go_wp2
  go_ret2
  exact ⟨rfl, bel_drewN HB.out _⟩
theorem dnumber_ok (c d : Nat) (F : Fb) (x y z : Int) (hr : RgO x y z) (w : World) (h : DW w c d F) : Calls Try.prog 43 #[.pointer (some ⟨c, 0, none⟩), .agg #[.int .i64 x, .int .i64 y, .int .u32 z]] w fun e w' => e = .returned (.tuple #[.int .i64 (F.number x y z), .int .i64 (F.chk x y z)]) ∧ Below w.heap.size w w' := by
  unfold Fb.number
  by_cases h0 : F.chk x y z = 0
  · obtain rfl := (Fb.chk_open h0).1
    obtain ⟨i, rfl, hi, hs, rfl, _⟩ := Fb.chk_is h.ok h0
    rw [Fb.look_open h0, h0]
    exact dnumber_yes c d i F w h hi hs
  · rw [Fb.look_none h0]
    exact dnumber_no c d F x y z hr h0 w h
set_option maxHeartbeats 4000000 in
theorem dclose_yes (c d i : Nat) (F : Fb) (w : World) (h : DW w c d F) (hi : i < F.t.n) (hs : F.t.s i = 1) : Calls Try.prog 17 #[.pointer (some ⟨c, 0, none⟩), .agg #[.int .i64 1, .int .i64 i, .int .u32 (F.t.g i)]] w fun e w' => e = .returned (.int .i64 0) ∧ DW w' c d (F.close i) ∧ Kept (· = d) w w' := by
  have a1 := h.ok.hi
  have a3 := h.ok.t.gm i
  have hr : RgO 1 i (F.t.g i) := ⟨by omega, by omega, by omega, by omega, by omega, by omega⟩
  have hck := h.ok.chk_held hi hs
  have CK : Hid (∀ W, Below w.heap.size w W → Calls Try.prog 40 #[.pointer (some ⟨c, 0, none⟩), .agg #[.int .i64 1, .int .i64 i, .int .u32 (F.t.g i)]] W fun e w' => e = .returned (.int .i64 0) ∧ Below W.heap.size W w') := fun W hW => by
    have := dcheck_ok c d F 1 i (F.t.g i) hr W (h.below hW)
    rw [hck] at this; exact this
  have HC : Hid (∀ W, Below w.heap.size w W → DW W c d F) := fun W hW => h.below hW
  have HI := Lib.hid hi
  obtain ⟨n, hn⟩ : ∃ n, F.t.n = n := ⟨_, rfl⟩
  have HN := Lib.hid hn
  have hin : i < n := by omega
  have hnb : n ≤ 64 := by omega
  have FIN : Hid (∀ W (r : Bool) (gn : Nat), DW W c d F → ((F.t.g i = 4294967295 ∧ r = true ∧ gn = 4294967295) ∨ (F.t.g i ≠ 4294967295 ∧ r = false ∧ gn = F.t.g i + 1)) → DW ((((W.setCell ⟨d, i * 4, none⟩ (.bool false)).setCell ⟨d, i * 4 + 1, none⟩ (.bool r)).setCell ⟨d, i * 4 + 2, none⟩ (.int .u32 gn)).setCell ⟨d, i * 4 + 3, none⟩ (.int .i64 0)) c d (F.close i) ∧ Kept (· = d) W ((((W.setCell ⟨d, i * 4, none⟩ (.bool false)).setCell ⟨d, i * 4 + 1, none⟩ (.bool r)).setCell ⟨d, i * 4 + 2, none⟩ (.int .u32 gn)).setCell ⟨d, i * 4 + 3, none⟩ (.int .i64 0))) := fun W r gn hW hrg => by
    have hk : Kept (· = d) W ((((W.setCell ⟨d, i * 4, none⟩ (.bool false)).setCell ⟨d, i * 4 + 1, none⟩ (.bool r)).setCell ⟨d, i * 4 + 2, none⟩ (.int .u32 gn)).setCell ⟨d, i * 4 + 3, none⟩ (.int .i64 0)) := (((((Kept.refl _ W).put1 _ _).put1 _ _).put1 _ _).put1 _ _)
    refine ⟨hW.put HI.out (hW.ok.close i) (F.close_n i) (fun j hj => ⟨gave_s_other hj, gave_g_other hj, put_other hj⟩) hk ?_, hk⟩
    obtain ⟨cap, cur, _, h2, h3, h4, _, _⟩ := hW.at_
    refine ⟨cur, h2, _, ((((h2.put (i * 4) _).put (i * 4 + 1) _).put (i * 4 + 2) _).put (i * 4 + 3) _), by simp, fun k hk => ?_, fun q hq => ?_⟩
    · rw [Array.getElem?_setIfInBounds, if_neg (by omega), Array.getElem?_setIfInBounds, if_neg (by omega), Array.getElem?_setIfInBounds, if_neg (by omega), Array.getElem?_setIfInBounds, if_neg (by omega)]
    · have hsz : i * 4 + 4 ≤ cur.size := by have := HI.out; rw [h3]; omega
      have e : dcl ((F.close i).t.s i) ((F.close i).t.g i) ((F.close i).num i) = [.bool false, .bool r, .int .u32 gn, .int .i64 0] := by
        have en : (F.close i).num i = 0 := by simp [Fb.close, put_same]
        rw [en]
        rcases hrg with ⟨g1, rfl, rfl⟩ | ⟨g1, rfl, rfl⟩
        · have e1 : F.t.gave i = ⟨F.t.n, put F.t.s i 2, F.t.g⟩ := by unfold Tb.gave; rw [if_pos g1]
          simp only [Fb.close, e1, put_same, g1]; rfl
        · have e1 : F.t.gave i = ⟨F.t.n, put F.t.s i 0, put F.t.g i (F.t.g i + 1)⟩ := by unfold Tb.gave; rw [if_neg g1]
          simp only [Fb.close, e1, put_same]; rfl
      rw [e]
      have h0 : i * 4 < cur.size := by omega
      have h1 : i * 4 + 1 < cur.size := by omega
      have h2 : i * 4 + 2 < cur.size := by omega
      have h3 : i * 4 + 3 < cur.size := by omega
      match q, hq with
      | 0, _ => simp [h0]
      | 1, _ => simp [h1]
      | 2, _ => simp [h2]
      | 3, _ => simp [h3]
  clear hr hck hi hs hn a1
  have hdt := h.dt
  have hct := h.ct
  clear h
  obtain ⟨fg, hfg⟩ : ∃ fg, F.t.g i = fg := ⟨_, rfl⟩
  rw [hfg] at CK FIN a3 ⊢
  by_cases hmax : fg = 4294967295
  · have hm : ((fg : Int) == 4294967295) = true := by simp; omega
    have HM := Lib.hid hmax
    clear hmax
    go_enter Try.func17, Try.ntmps17
    go_wp2_with (go_at_call 40; refine (CK.out _ ((Below.refl _ _).alloc (Nat.le_refl _) _)).mono ?_; rintro e w2 ⟨rfl, hb2⟩; have HB := Lib.hid (bel2 ((Below.refl _ _).alloc (Nat.le_refl _) _) hb2); obtain ⟨q0, q1, q2, q3⟩ := box_o hb2; clear hb2)
    obtain ⟨cap, c0, hc1, hc2⟩ := (HC.out w2 HB.out).c0
    obtain ⟨i0, i1, i2, i3⟩ := (HC.out w2 HB.out).ci HI.out
    rw [HN.out] at c0 hc1
    have hdl : d < w2.heap.size := (HC.out w2 HB.out).dt
    have hcl : c < w2.heap.size := (HC.out w2 HB.out).ct
    have f0 := (HC.out w2 HB.out).fz (i * 4)
    have f1 := (HC.out w2 HB.out).fz (i * 4 + 1)
    have f2 := (HC.out w2 HB.out).fz (i * 4 + 2)
    have f3 := (HC.out w2 HB.out).fz (i * 4 + 3)
    have hB := bel_alloc HB.out (.cells #[.bool false, .bool true, .int .u32 fg, .int .i64 0] 84)
    have hb1 : Below w2.heap.size w2 (w2.alloc (.cells #[.bool false, .bool true, .int .u32 fg, .int .i64 0] 84)) := (Below.refl _ _).alloc (Nat.le_refl _) _
    have hn := Bk.new w2 84 #[.bool false, .bool true, .int .u32 fg, .int .i64 0]
    have HB3 := Lib.hid hB
    have FI := Lib.hid (FIN.out _ true fg (((HC.out w2 HB.out).below hb1).same (w' := (w2.alloc (.cells #[.bool false, .bool true, .int .u32 fg, .int .i64 0] 84)).drew) rfl rfl) (.inl ⟨HM.out, rfl, HM.out⟩))
    have n0 : (w2.alloc (.cells #[.bool false, .bool true, .int .u32 fg, .int .i64 0] 84)).cell? ⟨w2.heap.size, 0, none⟩ = some (.bool false) := hn.cell 0
    have n1 : (w2.alloc (.cells #[.bool false, .bool true, .int .u32 fg, .int .i64 0] 84)).cell? ⟨w2.heap.size, 1, none⟩ = some (.bool true) := hn.cell 1
    have n2 : (w2.alloc (.cells #[.bool false, .bool true, .int .u32 fg, .int .i64 0] 84)).cell? ⟨w2.heap.size, 2, none⟩ = some (.int .u32 fg) := hn.cell 2
    have n3 : (w2.alloc (.cells #[.bool false, .bool true, .int .u32 fg, .int .i64 0] 84)).cell? ⟨w2.heap.size, 3, none⟩ = some (.int .i64 0) := hn.cell 3
    have e0 := cell_keeps hb1 i0
    have e1 := cell_keeps hb1 i1
    have e2 := cell_keeps hb1 i2
    have e3 := cell_keeps hb1 i3
    have ec := cell_keeps hb1 c0
    have eq := cell_keeps hb1 q1
    rw [← (bcell hb1).2 d _ hdl] at f0 f1 f2 f3
    generalize w2.alloc (.cells #[.bool false, .bool true, .int .u32 fg, .int .i64 0] 84) = w3 at *
    clear i0 i1 i2 i3 c0 hb1 hB hn q0 q1 q2
    go_region
    go_wp2
    go_ret
    exact ⟨rfl, FI.out.1, (Kept.of_below (bel_drew HB3.out)).trans FI.out.2⟩
  · have hm : ((fg : Int) == 4294967295) = false := by simp; omega
    have HM := Lib.hid hmax
    have hfg1 : (fg : Int) + 1 ≤ 4294967295 := by omega
    have hfg0 : (0 : Int) ≤ (fg : Int) + 1 := by omega
    clear hmax
    go_enter Try.func17, Try.ntmps17
    go_wp2_with (go_at_call 40; refine (CK.out _ ((Below.refl _ _).alloc (Nat.le_refl _) _)).mono ?_; rintro e w2 ⟨rfl, hb2⟩; have HB := Lib.hid (bel2 ((Below.refl _ _).alloc (Nat.le_refl _) _) hb2); obtain ⟨q0, q1, q2, q3⟩ := box_o hb2; clear hb2)
    obtain ⟨cap, c0, hc1, hc2⟩ := (HC.out w2 HB.out).c0
    obtain ⟨i0, i1, i2, i3⟩ := (HC.out w2 HB.out).ci HI.out
    rw [HN.out] at c0 hc1
    have hdl : d < w2.heap.size := (HC.out w2 HB.out).dt
    have hcl : c < w2.heap.size := (HC.out w2 HB.out).ct
    have f0 := (HC.out w2 HB.out).fz (i * 4)
    have f1 := (HC.out w2 HB.out).fz (i * 4 + 1)
    have f2 := (HC.out w2 HB.out).fz (i * 4 + 2)
    have f3 := (HC.out w2 HB.out).fz (i * 4 + 3)
    have hB := bel_alloc HB.out (.cells #[.bool false, .bool false, .int .u32 ((fg : Int) + 1), .int .i64 0] 84)
    have hb1 : Below w2.heap.size w2 (w2.alloc (.cells #[.bool false, .bool false, .int .u32 ((fg : Int) + 1), .int .i64 0] 84)) := (Below.refl _ _).alloc (Nat.le_refl _) _
    have hn := Bk.new w2 84 #[.bool false, .bool false, .int .u32 ((fg : Int) + 1), .int .i64 0]
    have HB3 := Lib.hid hB
    have FI := Lib.hid (FIN.out _ false (fg + 1) (((HC.out w2 HB.out).below hb1).same (w' := (w2.alloc (.cells #[.bool false, .bool false, .int .u32 ((fg : Int) + 1), .int .i64 0] 84)).drew) rfl rfl) (.inr ⟨HM.out, rfl, rfl⟩))
    have n0 : (w2.alloc (.cells #[.bool false, .bool false, .int .u32 ((fg : Int) + 1), .int .i64 0] 84)).cell? ⟨w2.heap.size, 0, none⟩ = some (.bool false) := hn.cell 0
    have n1 : (w2.alloc (.cells #[.bool false, .bool false, .int .u32 ((fg : Int) + 1), .int .i64 0] 84)).cell? ⟨w2.heap.size, 1, none⟩ = some (.bool false) := hn.cell 1
    have n2 : (w2.alloc (.cells #[.bool false, .bool false, .int .u32 ((fg : Int) + 1), .int .i64 0] 84)).cell? ⟨w2.heap.size, 2, none⟩ = some (.int .u32 ((fg : Int) + 1)) := hn.cell 2
    have n3 : (w2.alloc (.cells #[.bool false, .bool false, .int .u32 ((fg : Int) + 1), .int .i64 0] 84)).cell? ⟨w2.heap.size, 3, none⟩ = some (.int .i64 0) := hn.cell 3
    have e0 := cell_keeps hb1 i0
    have e1 := cell_keeps hb1 i1
    have e2 := cell_keeps hb1 i2
    have e3 := cell_keeps hb1 i3
    have ec := cell_keeps hb1 c0
    have eq := cell_keeps hb1 q1
    rw [← (bcell hb1).2 d _ hdl] at f0 f1 f2 f3
    generalize w2.alloc (.cells #[.bool false, .bool false, .int .u32 ((fg : Int) + 1), .int .i64 0] 84) = w3 at *
    clear i0 i1 i2 i3 c0 hb1 hB hn q0 q1 q2
    go_region
    go_wp2
    go_ret
    exact ⟨rfl, FI.out.1, (Kept.of_below (bel_drew HB3.out)).trans FI.out.2⟩
def DCloseP (c d : Nat) (F : Fb) (x y z : Int) (w : World) (e : Ending) (w' : World) : Prop := e = .returned (.int .i64 (F.chk x y z)) ∧ DW w' c d (F.closed x y z) ∧ Kept (· = d) w w'
theorem dclose_ok (c d : Nat) (F : Fb) (x y z : Int) (hr : RgO x y z) (w : World) (h : DW w c d F) : Calls Try.prog 17 #[.pointer (some ⟨c, 0, none⟩), .agg #[.int .i64 x, .int .i64 y, .int .u32 z]] w (DCloseP c d F x y z w) := by
  by_cases h0 : F.chk x y z = 0
  · obtain rfl := (Fb.chk_open h0).1
    obtain ⟨i, rfl, hi, hs, rfl, _⟩ := Fb.chk_is h.ok h0
    refine (dclose_yes c d i F w h hi hs).mono ?_
    rintro e w' ⟨rfl, h1, h2⟩
    refine ⟨by rw [h0], ?_, h2⟩
    unfold Fb.closed
    rw [if_pos h0]; exact h1
  · refine (dclose_no c d F x y z hr h0 w h).mono ?_
    rintro e w' ⟨rfl, hb⟩
    refine ⟨rfl, ?_, Kept.of_below hb⟩
    unfold Fb.closed
    rw [if_neg h0]; exact h.below hb
end Go.Proofs.Ythahmcipkchdjaa
