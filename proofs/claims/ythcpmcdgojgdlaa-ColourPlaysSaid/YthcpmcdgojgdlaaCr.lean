/- The document's paint: its memory; check, Of, Shade, Blacken, Born, Bleach, Grey. -/
import Derived.Test.YthcpmcdgojgdlaaLCCnt
import Derived.Test.YthcpmcdgojgdlaaLCWay
namespace Go.Proofs.Ythcpmcdgojgdlaa
open Go.RowKit

/-- The document's paint: its struct in block c, its colours in block d. -/
structure RfW (w : World) (c d : Nat) (P : Pt) : Prop where
  ok : P.Ok
  at_ : ∃ cap, P.n ≤ cap ∧ cap ≤ maxLen ∧ Bk w c 63 #[.slice (some ⟨d, 0, none⟩) P.n cap]
  l : Bl w d P.n P.c
section
variable {w w' : World} {c d : Nat} {P : Pt}
theorem RfW.cbk (h : RfW w c d P) : ∃ cs, Bk w c 63 cs := by obtain ⟨_, _, _, h1⟩ := h.at_; exact ⟨_, h1⟩
theorem RfW.ct (h : RfW w c d P) : c < w.heap.size := by obtain ⟨_, _, _, h1⟩ := h.at_; exact h1.lt
theorem RfW.dt (h : RfW w c d P) : d < w.heap.size := h.l.lt
theorem RfW.ne (h : RfW w c d P) : c ≠ d := by
  obtain ⟨_, _, _, h1⟩ := h.at_
  obtain ⟨_, h2, _⟩ := h.l
  rintro rfl
  exact absurd (h1.uniq h2).1 (by decide)
theorem RfW.same (h : RfW w c d P) (e1 : w'.heap[c]? = w.heap[c]?) (e2 : w'.heap[d]? = w.heap[d]?) : RfW w' c d P :=
  ⟨h.ok, by obtain ⟨cap, k1, k2, k3⟩ := h.at_; exact ⟨cap, k1, k2, k3.same e1⟩, h.l.same e2⟩
theorem RfW.kept {S : Nat → Prop} (h : RfW w c d P) (k : Kept S w w') (hc : ¬ S c) (hd : ¬ S d) : RfW w' c d P := h.same (k.block c h.ct hc) (k.block d h.dt hd)
theorem RfW.below (h : RfW w c d P) (k : Below w.heap.size w w') : RfW w' c d P := h.same (k.block c h.ct) (k.block d h.dt)
theorem RfW.c0 (h : RfW w c d P) : ∃ cap, P.n ≤ cap ∧ w.cell? ⟨c, 0, none⟩ = some (.slice (some ⟨d, 0, none⟩) P.n cap) := by obtain ⟨cap, k1, _, k3⟩ := h.at_; exact ⟨cap, k1, k3.cell 0⟩
theorem RfW.put (h : RfW w c d P) {k v : Nat} (hk : k < P.n) (hv : v ≤ 2) : RfW (w.setCell ⟨d, k, none⟩ (.int .i64 v)) c d (P.set k v) := by
  have hne := h.ne
  obtain ⟨cap, k1, k2, k3⟩ := h.at_
  exact ⟨h.ok.set hk hv, ⟨cap, k1, k2, k3.same (Below.heap_setCell _ _ _ _ hne)⟩, h.l.put hk v⟩
end

/-! ### check -/
theorem rcheck_nil (i : Int) (w : World) : Calls Try.prog 31 #[.pointer none, .int .i64 i] w fun e w' => e = .returned (.int .i64 1) ∧ w = w' := by
  go_enter Try.func31, Try.ntmps31
  go_wp2
  go_ret
  exact ⟨rfl, rfl⟩
theorem rcheck_out (c d : Nat) (P : Pt) (i : Int) (w : World) (h : RfW w c d P) (hi : i < 0 ∨ (P.n : Int) ≤ i) : Calls Try.prog 31 #[.pointer (some ⟨c, 0, none⟩), .int .i64 i] w fun e w' => e = .returned (.int .i64 3) ∧ w = w' := by
  obtain ⟨cap, hcap, hc⟩ := h.c0
  have hn := h.ok.lo
  have hz : ((P.n : Int) == 0) = false := by simp; omega
  clear h
  by_cases h0 : i < 0
  all_goals
    first | have h1 : (P.n : Int) ≤ i := by omega | skip
    clear hi
    go_enter Try.func31, Try.ntmps31
    go_wp2
    go_ret
    exact ⟨rfl, rfl⟩
theorem rcheck_in (c d : Nat) (P : Pt) (k : Nat) (w : World) (h : RfW w c d P) (hk : k < P.n) : Calls Try.prog 31 #[.pointer (some ⟨c, 0, none⟩), .int .i64 k] w fun e w' => e = .returned (.int .i64 0) ∧ w = w' := by
  obtain ⟨cap, hcap, hc⟩ := h.c0
  have hn := h.ok.lo
  have hz : ((P.n : Int) == 0) = false := by simp; omega
  clear h
  go_enter Try.func31, Try.ntmps31
  go_wp2
  go_ret
  exact ⟨rfl, rfl⟩
theorem rcheck_any (c d : Nat) (P : Pt) (i : Int) (w : World) (h : RfW w c d P) : Calls Try.prog 31 #[.pointer (some ⟨c, 0, none⟩), .int .i64 i] w fun e w' => e = .returned (.int .i64 (P.chk i)) ∧ w = w' := by
  unfold Pt.chk
  by_cases hi : P.at_ i
  · obtain ⟨k, rfl⟩ : ∃ k : Nat, i = k := ⟨i.toNat, by unfold Pt.at_ at hi; omega⟩
    rw [if_pos hi]
    exact rcheck_in c d P k w h ((P.at_nat k).1 hi)
  · rw [if_neg hi]
    exact rcheck_out c d P i w h (by unfold Pt.at_ at hi; omega)

/-! ### Of -/
theorem rof_nil (i : Int) (w : World) : Calls Try.prog 36 #[.pointer none, .int .i64 i] w fun e w' => e = .returned (.tuple #[.int .i64 0, .int .i64 1]) ∧ w = w' := by
  go_enter Try.func36, Try.ntmps36
  go_wp2_with (go_at_call 31; refine (rcheck_nil _ _).mono ?_; rintro e w' ⟨rfl, rfl⟩)
  go_ret2
  exact ⟨rfl, rfl⟩
theorem rof_any (c d : Nat) (P : Pt) (i : Int) (w : World) (h : RfW w c d P) : Calls Try.prog 36 #[.pointer (some ⟨c, 0, none⟩), .int .i64 i] w fun e w' => e = .returned (.tuple #[.int .i64 (P.of_ i), .int .i64 (P.chk i)]) ∧ w = w' := by
  by_cases hi : P.at_ i
  · obtain ⟨k, rfl⟩ : ∃ k : Nat, i = k := ⟨i.toNat, by unfold Pt.at_ at hi; omega⟩
    have hk := (P.at_nat k).1 hi
    rw [of_val hk, chk_in hk]
    obtain ⟨cap, hcap, hc⟩ := h.c0
    have hv := h.l.val hk
    have hn := h.ok.hi
    have H := Lib.hid h
    clear h
    go_enter Try.func36, Try.ntmps36
    go_wp2_with (go_at_call 31; refine (rcheck_in _ _ _ _ _ H.out hk).mono ?_; rintro e w' ⟨rfl, rfl⟩)
    go_ret2
    exact ⟨rfl, rfl⟩
  · have e1 : P.of_ i = 0 := by unfold Pt.of_; rw [if_neg hi]
    have e2 : P.chk i = 3 := by unfold Pt.chk; rw [if_neg hi]
    rw [e1, e2]
    have HO := Lib.hid (rcheck_out c d P i w h (by unfold Pt.at_ at hi; omega))
    clear h e1 e2 hi
    go_enter Try.func36, Try.ntmps36
    go_wp2_with (go_at_call 31; refine HO.out.mono ?_; rintro e w' ⟨rfl, rfl⟩)
    go_ret2
    exact ⟨rfl, rfl⟩

/-! ### Shade -/
theorem rshade_nil (i : Int) (w : World) : Calls Try.prog 13 #[.pointer none, .int .i64 i] w fun e w' => e = .returned (.tuple #[.bool false, .int .i64 1]) ∧ w = w' := by
  go_enter Try.func13, Try.ntmps13
  go_wp2_with (go_at_call 31; refine (rcheck_nil _ _).mono ?_; rintro e w' ⟨rfl, rfl⟩)
  go_ret2
  exact ⟨rfl, rfl⟩
theorem rshade_any (c d : Nat) (P : Pt) (i : Int) (w : World) (h : RfW w c d P) : Calls Try.prog 13 #[.pointer (some ⟨c, 0, none⟩), .int .i64 i] w fun e w' => e = .returned (.tuple #[.bool (P.shadeB i), .int .i64 (P.chk i)]) ∧ RfW w' c d (P.turn i 0 1) ∧ Kept (· = d) w w' := by
  by_cases hi : P.at_ i
  · obtain ⟨k, rfl⟩ : ∃ k : Nat, i = k := ⟨i.toNat, by unfold Pt.at_ at hi; omega⟩
    have hk := (P.at_nat k).1 hi
    rw [shadeB_in hk, chk_in hk]
    obtain ⟨cap, hcap, hc⟩ := h.c0
    have hv := h.l.val hk
    have hf := h.l.fz k
    have hdl := h.dt
    have hn := h.ok.hi
    have H := Lib.hid h
    clear h
    by_cases h0 : P.c k = 0
    · rw [turn_set hk 1 h0, decide_eq_true h0]
      rw [h0] at hv
      have HP := Lib.hid (H.out.put hk (v := 1) (by decide))
      clear h0
      go_enter Try.func13, Try.ntmps13
      go_wp2_with (go_at_call 31; refine (rcheck_in _ _ _ _ _ H.out hk).mono ?_; rintro e w' ⟨rfl, rfl⟩)
      go_ret2
      exact ⟨rfl, HP.out, (Kept.refl _ w).put1 _ _⟩
    · rw [turn_same k 1 h0, decide_eq_false h0]
      obtain ⟨x, hx⟩ : ∃ x, P.c k = x := ⟨_, rfl⟩
      rw [hx] at hv h0
      have hb : ((x : Int) != 0) = true := by simp; omega
      clear hx h0
      go_enter Try.func13, Try.ntmps13
      go_wp2_with (go_at_call 31; refine (rcheck_in _ _ _ _ _ H.out hk).mono ?_; rintro e w' ⟨rfl, rfl⟩)
      go_ret2
      exact ⟨rfl, H.out, Kept.refl _ _⟩
  · have e1 : P.shadeB i = false := by unfold Pt.shadeB; simp [hi]
    have e2 : P.chk i = 3 := by unfold Pt.chk; rw [if_neg hi]
    have e3 : P.turn i 0 1 = P := by unfold Pt.turn; rw [if_neg (fun x => hi x.1)]
    rw [e1, e2, e3]
    have HO := Lib.hid (rcheck_out c d P i w h (by unfold Pt.at_ at hi; omega))
    have H := Lib.hid h
    clear h e1 e2 e3 hi
    go_enter Try.func13, Try.ntmps13
    go_wp2_with (go_at_call 31; refine HO.out.mono ?_; rintro e w' ⟨rfl, rfl⟩)
    go_ret2
    exact ⟨rfl, H.out, Kept.refl _ _⟩

/-! ### blacken, Blacken, Born -/
theorem rblk_nil (i a : Int) (w : World) : Calls Try.prog 32 #[.pointer none, .int .i64 i, .int .i64 a] w fun e w' => e = .returned (.int .i64 1) ∧ w = w' := by
  go_enter Try.func32, Try.ntmps32
  go_wp2_with (go_at_call 31; refine (rcheck_nil _ _).mono ?_; rintro e w' ⟨rfl, rfl⟩)
  go_ret
  exact ⟨rfl, rfl⟩
theorem rblk_any (c d : Nat) (P : Pt) (i : Int) (a : Nat) (w : World) (h : RfW w c d P) : Calls Try.prog 32 #[.pointer (some ⟨c, 0, none⟩), .int .i64 i, .int .i64 a] w fun e w' => e = .returned (.int .i64 (P.turnE i a)) ∧ RfW w' c d (P.turn i a 2) ∧ Kept (· = d) w w' := by
  by_cases hi : P.at_ i
  · obtain ⟨k, rfl⟩ : ∃ k : Nat, i = k := ⟨i.toNat, by unfold Pt.at_ at hi; omega⟩
    have hk := (P.at_nat k).1 hi
    rw [turnE_in hk]
    obtain ⟨cap, hcap, hc⟩ := h.c0
    have hv := h.l.val hk
    have hf := h.l.fz k
    have hdl := h.dt
    have hn := h.ok.hi
    have H := Lib.hid h
    clear h
    by_cases h0 : P.c k = a
    · rw [turn_set hk 2 h0, if_pos h0]
      rw [h0] at hv
      have HP := Lib.hid (H.out.put hk (v := 2) (by decide))
      have hb : ((a : Int) != (a : Int)) = false := by simp
      clear h0
      go_enter Try.func32, Try.ntmps32
      go_wp2_with (go_at_call 31; refine (rcheck_in _ _ _ _ _ H.out hk).mono ?_; rintro e w' ⟨rfl, rfl⟩)
      go_ret
      exact ⟨rfl, HP.out, (Kept.refl _ w).put1 _ _⟩
    · rw [turn_same k 2 h0, if_neg h0]
      obtain ⟨x, hx⟩ : ∃ x, P.c k = x := ⟨_, rfl⟩
      rw [hx] at hv h0
      have hb : ((x : Int) != (a : Int)) = true := by simp; omega
      clear hx h0
      go_enter Try.func32, Try.ntmps32
      go_wp2_with (go_at_call 31; refine (rcheck_in _ _ _ _ _ H.out hk).mono ?_; rintro e w' ⟨rfl, rfl⟩)
      go_ret
      exact ⟨rfl, H.out, Kept.refl _ _⟩
  · have e2 : P.turnE i a = 3 := by unfold Pt.turnE; rw [if_neg hi]
    have e3 : P.turn i a 2 = P := by unfold Pt.turn; rw [if_neg (fun x => hi x.1)]
    rw [e2, e3]
    have HO := Lib.hid (rcheck_out c d P i w h (by unfold Pt.at_ at hi; omega))
    have H := Lib.hid h
    clear h e2 e3 hi
    go_enter Try.func32, Try.ntmps32
    go_wp2_with (go_at_call 31; refine HO.out.mono ?_; rintro e w' ⟨rfl, rfl⟩)
    go_ret
    exact ⟨rfl, H.out, Kept.refl _ _⟩
theorem rblack_nil (i : Int) (w : World) : Calls Try.prog 15 #[.pointer none, .int .i64 i] w fun e w' => e = .returned (.int .i64 1) ∧ w = w' := by
  go_enter Try.func15, Try.ntmps15
  go_wp2_with (go_at_call 32; refine (rblk_nil _ _ _).mono ?_; rintro e w' ⟨rfl, rfl⟩)
  go_ret
  exact ⟨rfl, rfl⟩
theorem rblack_any (c d : Nat) (P : Pt) (i : Int) (w : World) (h : RfW w c d P) : Calls Try.prog 15 #[.pointer (some ⟨c, 0, none⟩), .int .i64 i] w fun e w' => e = .returned (.int .i64 (P.turnE i 1)) ∧ RfW w' c d (P.turn i 1 2) ∧ Kept (· = d) w w' := by
  have H := Lib.hid (rblk_any c d P i 1 w h)
  clear h
  generalize P.turnE i 1 = E at *
  go_enter Try.func15, Try.ntmps15
  go_wp2_with (go_at_call 32; refine H.out.mono ?_; rintro e w1 ⟨rfl, hb⟩; have HB := Lib.hid hb; clear hb)
  go_ret
  exact ⟨rfl, HB.out⟩
theorem rborn_nil (i : Int) (w : World) : Calls Try.prog 17 #[.pointer none, .int .i64 i] w fun e w' => e = .returned (.int .i64 1) ∧ w = w' := by
  go_enter Try.func17, Try.ntmps17
  go_wp2_with (go_at_call 32; refine (rblk_nil _ _ _).mono ?_; rintro e w' ⟨rfl, rfl⟩)
  go_ret
  exact ⟨rfl, rfl⟩
theorem rborn_any (c d : Nat) (P : Pt) (i : Int) (w : World) (h : RfW w c d P) : Calls Try.prog 17 #[.pointer (some ⟨c, 0, none⟩), .int .i64 i] w fun e w' => e = .returned (.int .i64 (P.turnE i 0)) ∧ RfW w' c d (P.turn i 0 2) ∧ Kept (· = d) w w' := by
  have H := Lib.hid (rblk_any c d P i 0 w h)
  clear h
  generalize P.turnE i 0 = E at *
  go_enter Try.func17, Try.ntmps17
  go_wp2_with (go_at_call 32; refine H.out.mono ?_; rintro e w1 ⟨rfl, hb⟩; have HB := Lib.hid hb; clear hb)
  go_ret
  exact ⟨rfl, HB.out⟩

/-! ### Bleach -/
theorem rbleach_nil (i : Int) (w : World) : Calls Try.prog 19 #[.pointer none, .int .i64 i] w fun e w' => e = .returned (.int .i64 1) ∧ w = w' := by
  go_enter Try.func19, Try.ntmps19
  go_wp2_with (go_at_call 31; refine (rcheck_nil _ _).mono ?_; rintro e w' ⟨rfl, rfl⟩)
  go_ret
  exact ⟨rfl, rfl⟩
theorem rbleach_any (c d : Nat) (P : Pt) (i : Int) (w : World) (h : RfW w c d P) : Calls Try.prog 19 #[.pointer (some ⟨c, 0, none⟩), .int .i64 i] w fun e w' => e = .returned (.int .i64 (P.chk i)) ∧ RfW w' c d (P.bleach i) ∧ Kept (· = d) w w' := by
  by_cases hi : P.at_ i
  · obtain ⟨k, rfl⟩ : ∃ k : Nat, i = k := ⟨i.toNat, by unfold Pt.at_ at hi; omega⟩
    have hk := (P.at_nat k).1 hi
    rw [chk_in hk, bleach_set hk]
    obtain ⟨cap, hcap, hc⟩ := h.c0
    have hv := h.l.val hk
    have hf := h.l.fz k
    have hdl := h.dt
    have hn := h.ok.hi
    have H := Lib.hid h
    have HP := Lib.hid (h.put hk (v := 0) (by decide))
    clear h
    go_enter Try.func19, Try.ntmps19
    go_wp2_with (go_at_call 31; refine (rcheck_in _ _ _ _ _ H.out hk).mono ?_; rintro e w' ⟨rfl, rfl⟩)
    go_ret
    exact ⟨rfl, HP.out, (Kept.refl _ w).put1 _ _⟩
  · have e2 : P.chk i = 3 := by unfold Pt.chk; rw [if_neg hi]
    have e3 : P.bleach i = P := by unfold Pt.bleach; rw [if_neg hi]
    rw [e2, e3]
    have HO := Lib.hid (rcheck_out c d P i w h (by unfold Pt.at_ at hi; omega))
    have H := Lib.hid h
    clear h e2 e3 hi
    go_enter Try.func19, Try.ntmps19
    go_wp2_with (go_at_call 31; refine HO.out.mono ?_; rintro e w' ⟨rfl, rfl⟩)
    go_ret
    exact ⟨rfl, H.out, Kept.refl _ _⟩
end Go.Proofs.Ythcpmcdgojgdlaa
