/- The contracts of Now, Tick, Answer, Ledger and coming. -/
import Derived.Test.YtpinmiplefidpaaGreatDoorOa
import Derived.BigQuiet
namespace Go.Proofs.YtpinmiplefidpaaGreatDoor
open Go.RowKit

/-! ### Now -/
theorem wnow_no (p : Option Addr) (w : World) (h : WInv w p) : Calls Tryz.prog 32 #[.pointer p] w fun e w' => e = .returned (.int .i64 0) ∧ w = w' := by
  have H := Lib.hid h
  clear h
  go_enter Tryz.func32, Tryz.ntmps32
  go_wp2_with (go_at_call 62; refine (wvalid_no _ _ H.out).mono ?_; rintro e w' ⟨rfl, rfl⟩)
  go_ret
  exact ⟨rfl, rfl⟩
theorem wnow_ok (A : Ad) (W : Wd) (w : World) (h : WW w A W) : Calls Tryz.prog 32 #[ptr A.b] w fun e w' => e = .returned (.int .i64 W.T) ∧ w = w' := by
  have hc := h.c0
  have h5 := h.p5
  clear h
  unfold ptr at *
  generalize W.T = T at *
  go_enter Tryz.func32, Tryz.ntmps32
  go_wp2_with (go_at_call 62; refine (wvalid_yes _ _ _ hc).mono ?_; rintro e w' ⟨rfl, rfl⟩)
  go_ret
  exact ⟨rfl, rfl⟩

/-! ### Tick -/
theorem wtick_no (p : Option Addr) (x : Int) (w : World) (h : WInv w p) : Calls Tryz.prog 22 #[.pointer p, .int .i64 x] w fun e w' => e = .returned (.int .i64 1) ∧ w = w' := by
  have H := Lib.hid h
  clear h
  go_enter Tryz.func22, Tryz.ntmps22
  go_wp2_with (go_at_call 62; refine (wvalid_no _ _ H.out).mono ?_; rintro e w' ⟨rfl, rfl⟩)
  go_ret
  exact ⟨rfl, rfl⟩
set_option maxHeartbeats 1000000 in
theorem wtick_ok (A : Ad) (W : Wd) (x : Int) (w : World) (h : WW w A W) : Calls Tryz.prog 22 #[ptr A.b, .int .i64 x] w fun e w' => e = .returned (.int .i64 (W.tE x)) ∧ WW w' A (W.tick x) ∧ WStep A w w' := by
  have H := Lib.hid h
  have hc := h.c0
  have h5 := h.p5
  have hf := h.fz 5
  have t0 := h.ok.T0
  have t1 := h.ok.T1
  unfold ptr at *
  by_cases hs : LS.IsSpan x
  · have SP := Lib.hid (decide_eq_true hs)
    obtain ⟨s0, s1⟩ := hs
    have hs2 : LS.IsSpan x := ⟨s0, s1⟩
    by_cases ho : 1099511627776 < W.T + x
    · have e1 : Hid (W.tE x = 17) := by unfold Hid Wd.tE; rw [if_pos hs2, if_pos ho]
      have e2 : Hid (W.tick x = W) := by unfold Hid Wd.tick; rw [e1.out]; rfl
      clear h hs2
      generalize W.T = T at *
      go_enter Tryz.func22, Tryz.ntmps22
      go_wp2_with (first
        | (go_at_call 62; refine (wvalid_yes _ _ _ hc).mono ?_; rintro e w' ⟨rfl, rfl⟩)
        | (go_at_call 78; refine (wspan_is _ _ _ SP.out).mono ?_; rintro e w' ⟨rfl, rfl⟩))
      go_ret
      exact ⟨by rw [e1.out]; rfl, by rw [e2.out]; exact H.out, WStep.refl _ _⟩
    · have e1 : Hid (W.tE x = 0) := by unfold Hid Wd.tE; rw [if_pos hs2, if_neg ho]
      have e2 : Hid (W.tick x = { W with T := W.T + x }) := by unfold Hid Wd.tick; rw [if_pos e1.out]
      have ST : Hid (WW (w.setCell ⟨A.p, 5, none⟩ (.int .i64 (W.T + x))) A { W with T := W.T + x } ∧ WStep A w (w.setCell ⟨A.p, 5, none⟩ (.int .i64 (W.T + x)))) := h.stepT (by have := h.ok.tick x; rwa [e2.out] at this)
      rw [← e2.out] at ST
      clear h hs2
      generalize W.T = T at *
      go_enter Tryz.func22, Tryz.ntmps22
      go_wp2_with (first
        | (go_at_call 62; refine (wvalid_yes _ _ _ hc).mono ?_; rintro e w' ⟨rfl, rfl⟩)
        | (go_at_call 78; refine (wspan_is _ _ _ SP.out).mono ?_; rintro e w' ⟨rfl, rfl⟩))
      go_ret
      exact ⟨by rw [e1.out]; rfl, ST.out.1, ST.out.2⟩
  · have SP := Lib.hid (decide_eq_false hs)
    have e1 : Hid (W.tE x = 2) := if_neg hs
    have e2 : Hid (W.tick x = W) := by unfold Hid Wd.tick; rw [e1.out]; rfl
    clear h hs
    go_enter Tryz.func22, Tryz.ntmps22
    go_wp2_with (first
      | (go_at_call 62; refine (wvalid_yes _ _ _ hc).mono ?_; rintro e w' ⟨rfl, rfl⟩)
      | (go_at_call 78; refine (wspan_is _ _ _ SP.out).mono ?_; rintro e w' ⟨rfl, rfl⟩))
    go_ret
    exact ⟨by rw [e1.out]; rfl, by rw [e2.out]; exact H.out, WStep.refl _ _⟩

/-! ### Answer -/
theorem wanswer_no (p : Option Addr) (s : ByteArray) (w : World) (h : WInv w p) : Calls Tryz.prog 24 #[.pointer p, .string s] w fun e w' => e = .returned (.int .i64 1) ∧ w = w' := by
  have H := Lib.hid h
  clear h
  go_enter Tryz.func24, Tryz.ntmps24
  go_wp2_with (go_at_call 62; refine (wvalid_no _ _ H.out).mono ?_; rintro e w' ⟨rfl, rfl⟩)
  go_ret
  exact ⟨rfl, rfl⟩
theorem wanswer_ok (A : Ad) (W : Wd) (s : ByteArray) (w : World) (he : AN.Env w) (h : WW w A W) (hs : s.size ≤ 140737488351232) : Calls Tryz.prog 24 #[ptr A.b, .string s] w fun e w' => e = .returned (.int .i64 (W.sE s.data.toList)) ∧ WW w' A (W.said s.data.toList) ∧ WStep A w w' := by
  have H := Lib.hid h
  have hc := h.c0
  have h3 := h.p3
  have AD : Hid (Calls Tryz.prog 83 #[ptr A.s, .string s] w fun e w' => e = .returned (.int .i64 (W.sE s.data.toList)) ∧ WW w' A (W.said s.data.toList) ∧ WStep A w w') := by
    refine (AN.add_at s A.s W.L w he h.hS hs).mono ?_
    rintro e w' ⟨rfl, q1, q2, q3⟩
    obtain ⟨x1, x2⟩ := h.stepS q2 q1 q3.out (h.ok.said _)
    exact ⟨rfl, x1, x2⟩
  clear h he
  unfold ptr at *
  generalize W.sE s.data.toList = E at *
  generalize W.said s.data.toList = U at *
  go_enter Tryz.func24, Tryz.ntmps24
  go_wp2_with (go_at_call 62; refine (wvalid_yes _ _ _ hc).mono ?_; rintro e w' ⟨rfl, rfl⟩)
  refine AD.out.mono ?_
  rintro e w1 ⟨rfl, r1, r2⟩
  have R := Lib.hid (And.intro r1 r2)
  clear r1 r2
  go_wp2
  go_ret
  exact ⟨rfl, R.out.1, R.out.2⟩

/-! ### Ledger -/
theorem wledger_no (p : Option Addr) (w : World) (h : WInv w p) : Calls Tryz.prog 37 #[.pointer p] w fun e w' => e = .returned (.pointer none) ∧ w = w' := by
  have H := Lib.hid h
  clear h
  go_enter Tryz.func37, Tryz.ntmps37
  go_wp2_with (go_at_call 62; refine (wvalid_no _ _ H.out).mono ?_; rintro e w' ⟨rfl, rfl⟩)
  go_ret
  exact ⟨rfl, rfl⟩
theorem wledger_ok (A : Ad) (W : Wd) (w : World) (h : WW w A W) : Calls Tryz.prog 37 #[ptr A.b] w (LG.CopyV W.B w) := by
  have H := Lib.hid h.hL
  have hc := h.c0
  have h4 := h.p4
  clear h
  unfold ptr at *
  go_enter Tryz.func37, Tryz.ntmps37
  go_wp2_with (go_at_call 62; refine (wvalid_yes _ _ _ hc).mono ?_; rintro e w' ⟨rfl, rfl⟩)
  refine (LG.copy_ok A.l A.lb A.lo W.B _ H.out).mono ?_
  rintro e w1 ⟨b, bk, rfl, r1, r2, r3⟩
  have R := Lib.hid (And.intro r1 (And.intro r2 r3))
  clear r1 r2 r3
  go_wp2
  go_ret
  exact ⟨b, bk, rfl, R.out.1, R.out.2.1, R.out.2.2⟩

/-! ### coming -/
theorem coming_ok (A : Ad) (W : Wd) (w : World) (h : WW w A W) : Calls Tryz.prog 69 #[ptr A.p] w fun e w' => e = .returned (.int .i64 W.h) ∧ Below w.heap.size w w' := by
  have H := Lib.hid h.hS
  have h3 := h.p3
  have hh : Hid (W.h = W.L.headD 1) := rfl
  clear h
  unfold ptr at *
  generalize W.h = x at *
  go_enter Tryz.func69, Tryz.ntmps69
  go_wp2_with fail
  refine (AN.peek_ok A.s 1 W.L _ H.out).mono ?_
  rintro e w1 ⟨v, rfl, ho, hb⟩
  have HB := Lib.hid hb
  have hsl := AN.Sl.of_own ho
  clear ho hb
  cases hL : W.L with
  | nil =>
    rw [hL] at hsl hh
    obtain rfl : x = 1 := hh.out
    obtain ⟨a, c, rfl, _⟩ := hsl.len
    have hz : (List.take (Int.toNat 1) ([] : List Int)).length = 0 := rfl
    rw [hz]
    clear hsl hh hL
    go_wp2
    go_ret
    exact ⟨rfl, HB.out⟩
  | cons y l =>
    rw [hL] at hsl hh
    obtain rfl : x = y := hh.out
    obtain ⟨a, c, rfl, h2⟩ := hsl.len
    have hz : (List.take (Int.toNat 1) (x :: l)).length = 1 := rfl
    rw [hz] at h2 ⊢
    obtain ⟨g, off, rfl, hg, hcell, _⟩ := h2.cell (j := 0) (by show 0 < 1; omega)
    have hcell2 : w1.cell? ⟨g, off, none⟩ = some (.int .i64 x) := hcell
    clear hsl hh hL h2 hcell
    go_wp2
    go_ret
    exact ⟨rfl, HB.out⟩
end Go.Proofs.YtpinmiplefidpaaGreatDoor
