/- The document's world: valid, span, good, Now, Copy of a ledger, All. -/
import Derived.Test.YtpinmiplefidpaaGreatDoorQk
import Derived.Test.YtpinmiplefidpaaGreatDoorOf
namespace Go.Proofs.YtpinmiplefidpaaGreatDoor
open Go.RowKit

theorem rv_nil (w : World) : Calls Tryz.prog 65 #[.pointer none] w fun e w' => e = .returned (.bool false) ∧ w = w' := by
  go_enter Tryz.func65, Tryz.ntmps65
  go_wp2
  go_ret
  exact ⟨rfl, rfl⟩
theorem rv_yes (r : Nat) (w : World) (h : w.cell? ⟨r, 0, none⟩ = some (.bool true)) : Calls Tryz.prog 65 #[.pointer (some ⟨r, 0, none⟩)] w fun e w' => e = .returned (.bool true) ∧ w = w' := by
  go_enter Tryz.func65, Tryz.ntmps65
  go_wp2
  go_ret
  exact ⟨rfl, rfl⟩
theorem rsp_is (x : Int) (b : Bool) (w : World) (h : decide (LS.IsSpan x) = b) : Calls Tryz.prog 80 #[.int .i64 x] w fun e w' => e = .returned (.bool b) ∧ w = w' := by
  subst h
  by_cases h1 : 1 ≤ x
  · by_cases h2 : x ≤ 1048576
    · have e : decide (LS.IsSpan x) = true := decide_eq_true ⟨h1, h2⟩
      rw [e]
      clear e
      go_enter Tryz.func80, Tryz.ntmps80
      go_wp2
      go_ret
      exact ⟨rfl, rfl⟩
    · have e : decide (LS.IsSpan x) = false := decide_eq_false fun c => h2 c.2
      rw [e]
      clear e
      go_enter Tryz.func80, Tryz.ntmps80
      go_wp2
      go_ret
      exact ⟨rfl, rfl⟩
  · have e : decide (LS.IsSpan x) = false := decide_eq_false fun c => h1 c.1
    rw [e]
    clear e
    go_enter Tryz.func80, Tryz.ntmps80
    go_wp2
    go_ret
    exact ⟨rfl, rfl⟩
/-- Whether the number of a kind is good. -/
def goodK (k x : Int) : Bool := if k = 1 then decide (0 ≤ x ∧ x ≤ 65535) else if k = 2 then decide (1 ≤ x ∧ x ≤ 65536) else if k = 3 then decide (LS.IsSpan x) else false
theorem rgood_is (k x : Int) (b : Bool) (w : World) (h : goodK k x = b) : Calls Tryz.prog 66 #[.int .i64 k, .int .i64 x] w fun e w' => e = .returned (.bool b) ∧ w = w' := by
  unfold goodK at h
  by_cases k1 : k = 1
  · subst k1
    rw [if_pos rfl] at h
    subst h
    by_cases h1 : 0 ≤ x
    · by_cases h2 : x ≤ 65535
      · rw [decide_eq_true (And.intro h1 h2)]
        go_enter Tryz.func66, Tryz.ntmps66
        go_wp2
        go_ret
        exact ⟨rfl, rfl⟩
      · rw [decide_eq_false (fun c => h2 c.2)]
        go_enter Tryz.func66, Tryz.ntmps66
        go_wp2
        go_ret
        exact ⟨rfl, rfl⟩
    · rw [decide_eq_false (fun c => h1 c.1)]
      go_enter Tryz.func66, Tryz.ntmps66
      go_wp2
      go_ret
      exact ⟨rfl, rfl⟩
  rw [if_neg k1] at h
  by_cases k2 : k = 2
  · subst k2
    rw [if_pos rfl] at h
    subst h
    clear k1
    by_cases h1 : 1 ≤ x
    · by_cases h2 : x ≤ 65536
      · rw [decide_eq_true (And.intro h1 h2)]
        go_enter Tryz.func66, Tryz.ntmps66
        go_wp2
        go_ret
        exact ⟨rfl, rfl⟩
      · rw [decide_eq_false (fun c => h2 c.2)]
        go_enter Tryz.func66, Tryz.ntmps66
        go_wp2
        go_ret
        exact ⟨rfl, rfl⟩
    · rw [decide_eq_false (fun c => h1 c.1)]
      go_enter Tryz.func66, Tryz.ntmps66
      go_wp2
      go_ret
      exact ⟨rfl, rfl⟩
  rw [if_neg k2] at h
  have n1 : (k == 1) = false := beq_eq_false_iff_ne.2 k1
  have n2 : (k == 2) = false := beq_eq_false_iff_ne.2 k2
  by_cases k3 : k = 3
  · subst k3
    rw [if_pos rfl] at h
    clear k1 k2 n1 n2
    have SP := Lib.hid (rsp_is x b w h)
    clear h
    go_enter Tryz.func66, Tryz.ntmps66
    go_wp2_with fail
    refine SP.out.mono ?_
    rintro e w' ⟨rfl, rfl⟩
    go_wp2
    go_ret
    exact ⟨rfl, rfl⟩
  rw [if_neg k3] at h
  have n3 : (k == 3) = false := beq_eq_false_iff_ne.2 k3
  subst h
  clear k1 k2 k3
  go_enter Tryz.func66, Tryz.ntmps66
  go_wp2
  go_ret
  exact ⟨rfl, rfl⟩
theorem rnow_ok (x : Rx) (W : Wd) (w : World) (h : RW w x W) : Calls Tryz.prog 33 #[ptr x.r] w fun e w' => e = .returned (.int .i64 W.T) ∧ w = w' := by
  have c0 := h.c0
  have c6 := h.c6
  clear h
  unfold ptr
  go_enter Tryz.func33, Tryz.ntmps33
  go_wp2_with fail
  refine (rv_yes _ _ c0).mono ?_
  rintro e w' ⟨rfl, rfl⟩
  go_wp2
  go_ret
  exact ⟨rfl, rfl⟩
theorem rnow_nil (w : World) : Calls Tryz.prog 33 #[.pointer none] w fun e w' => e = .returned (.int .i64 0) ∧ w = w' := by
  go_enter Tryz.func33, Tryz.ntmps33
  go_wp2_with fail
  refine (rv_nil _).mono ?_
  rintro e w' ⟨rfl, rfl⟩
  go_wp2
  go_ret
  exact ⟨rfl, rfl⟩
/-- A ledger's copy. -/
theorem rlcopy_ok (b lo : Nat) (v : Value) (l : List LG.Att) (w : World) (h : LG.RefW w b v lo l) : Calls Tryz.prog 91 #[.pointer (some ⟨b, 0, none⟩)] w fun e w' => ∃ b' v', e = .returned (.pointer (some ⟨b', 0, none⟩)) ∧ Hid (LG.RefW w' b' v' w.heap.size l) ∧ Hid (Below w.heap.size w w') := by
  have H := Lib.hid h
  have c0 := h.hb.cell 0
  clear h
  go_enter Tryz.func91, Tryz.ntmps91
  go_wp2_with fail
  refine (LG.rvalid_yes _ _ c0).mono ?_
  rintro e w' ⟨rfl, rfl⟩
  go_wp2_with fail
  refine (LG.rall_ok _ _ _ _ _ H.out).mono ?_
  rintro e w1 ⟨v1, rfl, ho, hb⟩
  have HB := Lib.hid (bel2 hb (bel_new w1 (.cells #[.bool true, v1] 140)))
  have HR : Hid (LG.RefW (w1.alloc (.cells #[.bool true, v1] 140)) w1.heap.size v1 w.heap.size l) := ⟨H.out.ok, H.out.len, Bk.new _ _ _, own_below ho (bel_new _ _), hb.size⟩
  obtain ⟨p, c, rfl⟩ := own_form ho
  clear ho hb c0 H
  go_wp2
  go_ret
  exact ⟨_, _, rfl, HR.out, HB.out⟩
theorem rall_nil (w : World) : Calls Tryz.prog 36 #[.pointer none] w fun e w' => e = .returned (.slice none 0 0) ∧ w = w' := by
  go_enter Tryz.func36, Tryz.ntmps36
  go_wp2_with fail
  refine (rv_nil _).mono ?_
  rintro e w' ⟨rfl, rfl⟩
  go_wp2
  go_ret
  exact ⟨rfl, rfl⟩
set_option maxRecDepth 100000 in
set_option maxHeartbeats 1000000 in
theorem rwall_ok (x : Rx) (W : Wd) (w : World) (h : RW w x W) :
    Calls Tryz.prog 36 #[ptr x.r] w (LS.NewO W.all w) := by
  have H := Lib.hid h
  have c0 := h.c0
  have hl1 := h.ok.F.held_len
  have hl2 := h.ok.P.held_len
  have hl3 := h.ok.D.held_len
  rw [← FD.Fb.all_len] at hl1
  rw [← BF.Po.all_len] at hl2
  rw [← LS.Dk.all_len] at hl3
  have N0 : Hid ((w.alloc (.cells #[] 25)).ownsRow w.heap.size 25 3 (.slice (some ⟨w.heap.size, 0, none⟩) 0 0) 0 []) := World.ownsRow_lit w #[] 0 (Nat.le_refl _) (by decide) rfl
  have B0 := Lib.hid (bel_new w (.cells #[] 25))
  have c1 := cell_keeps B0.out h.c1
  clear h
  unfold ptr at *
  go_enter Tryz.func36, Tryz.ntmps36
  go_wp2_with fail
  refine (rv_yes _ _ c0).mono ?_
  rintro e w' ⟨rfl, rfl⟩
  go_wp2_with fail
  refine (FD.dall_ok x.f x.fd W.F _ (H.out.below B0.out).1.hF).mono ?_
  rintro e w1 ⟨p1, a1, rfl, o1, b1⟩
  have R1 := Lib.hid (RdO.of_own o1)
  have B1 := Lib.hid (bel2 B0.out b1)
  have N1 := Lib.hid (own_below N0.out b1)
  clear o1 b1 N0 B0 c1 c0
  go_wp2_with (at_builtin; refine wpList_append_ro rfl _ _ rfl w.heap.size _ 0 [] rfl N1.out _ W.F.all rfl R1.out (by omega) B1.out.size ?_)
  rintro v2 w2 o2 g2
  have B2 := Lib.hid (B1.out.trans ((grown_kept g2).below B1.out.size fun g e => (N1.out.lt g e).1))
  obtain ⟨p2, a2, rfl⟩ := own_form o2
  have O2 := Lib.hid o2
  have c2 := (H.out.below B2.out).1.c2
  unfold ptr at c2
  clear o2 g2
  go_wp2_with fail
  refine (BF.dall_ok x.p x.pd W.P _ (H.out.below B2.out).1.hP).mono ?_
  rintro e w3 ⟨p3, a3, rfl, o3, b3⟩
  have R3 := Lib.hid (RdO.of_own o3)
  have O3 := Lib.hid (own_below O2.out b3)
  have B3 := Lib.hid (B2.out.trans (b3.mono B2.out.size))
  clear o3 b3 c2
  go_wp2_with (at_builtin; refine wpList_append_ro rfl _ _ rfl w.heap.size _ W.F.all.length (ocls W.F.all) rfl O3.out _ W.P.all rfl R3.out (by omega) B3.out.size ?_)
  rintro v4 w4 o4 g4
  have B4 := Lib.hid (B3.out.trans ((grown_kept g4).below B3.out.size fun g e => (O3.out.lt g e).1))
  rw [← List.length_append, ← ocls_append] at o4
  obtain ⟨p4, a4, rfl⟩ := own_form o4
  have O4 := Lib.hid o4
  have hl4 : (W.F.all ++ W.P.all).length ≤ 128 := by rw [List.length_append]; omega
  have c3 := (H.out.below B4.out).1.c3
  unfold ptr at c3
  clear o4 g4
  generalize hM : W.F.all ++ W.P.all = M at *
  go_wp2_with fail
  refine (LS.eall_ok x.q x.qc x.qd x.qg W.D _ (H.out.below B4.out).1.hD).mono ?_
  rintro e w5 ⟨p5, a5, rfl, o5, b5⟩
  have R5 := Lib.hid (RdO.of_own o5)
  have O5 := Lib.hid (own_below O4.out b5)
  have B5 := Lib.hid (B4.out.trans (b5.mono B4.out.size))
  clear o5 b5 c3
  go_wp2_with (at_builtin; refine wpList_append_ro rfl _ _ rfl w.heap.size _ M.length (ocls M) rfl O5.out _ W.D.all rfl R5.out (by omega) B5.out.size ?_)
  rintro v6 w6 o6 g6
  have B6 := Lib.hid (B5.out.trans ((grown_kept g6).below B5.out.size fun g e => (O5.out.lt g e).1))
  rw [← List.length_append, ← ocls_append] at o6
  have hAll : M ++ W.D.all = W.all := by rw [← hM]; rfl
  rw [hAll] at o6
  obtain ⟨p6, a6, rfl⟩ := own_form o6
  have O6 := Lib.hid o6
  clear o6 g6 hAll
  go_wp2
  go_ret
  exact ⟨p6, a6, rfl, O6.out, B6.out⟩
end Go.Proofs.YtpinmiplefidpaaGreatDoor
