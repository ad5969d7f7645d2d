/- The document's paint: New, Grey, Counts, Clear. -/
import Derived.Test.YthcpmcdgojgdlaaCr
import Derived.BigRegion
namespace Go.Proofs.Ythcpmcdgojgdlaa
open Go.RowKit

theorem rnew_bad (size : Int) (w : World) (h : size < 1 ∨ 256 < size) : Calls Try.prog 11 #[.int .i64 size] w fun e w' => e = .returned (.tuple #[.pointer none, .int .i64 2]) ∧ w = w' := by
  by_cases h0 : size < 1
  all_goals
    first | have h1 : 256 < size := by omega | skip
    clear h
    go_enter Try.func11, Try.ntmps11
    go_wp2
    go_ret2
    exact ⟨rfl, rfl⟩
theorem rnew_ok (n : Nat) (w : World) (h1 : 1 ≤ n) (h2 : n ≤ 256) : Calls Try.prog 11 #[.int .i64 n] w fun e w' => ∃ c d, w.heap.size ≤ c ∧ w.heap.size ≤ d ∧ e = .returned (.tuple #[.pointer (some ⟨c, 0, none⟩), .int .i64 0]) ∧ RfW w' c d (white n) ∧ Below w.heap.size w w' := by
  have hmk := make_int n (by omega)
  go_enter Try.func11, Try.ntmps11
  go_wp2
  go_ret2
  have b1 := (Bl.made w n).below (bel_new (w.alloc (.cells (made_ n) 3)) (.cells #[.slice (some ⟨w.heap.size, 0, none⟩) n n] 63))
  refine ⟨w.heap.size + 1, w.heap.size, by omega, Nat.le_refl _, rfl, ⟨white_ok h1 h2, ⟨n, Nat.le_refl _, by unfold maxLen; omega, ?_⟩, b1⟩, (bel_new w _).alloc (by simp) _⟩
  have b2 := Bk.new (w.alloc (.cells (made_ n) 3)) 63 #[.slice (some ⟨w.heap.size, 0, none⟩) n n]
  rw [World.size_alloc] at b2
  exact b2

/-! ### Grey -/
theorem rgrey_nil (i : Int) (w : World) : Calls Try.prog 37 #[.pointer none, .int .i64 i] w fun e w' => e = .returned (.tuple #[.int .i64 0, .bool false]) ∧ w = w' := by
  go_enter Try.func37, Try.ntmps37
  go_wp2_with (go_at_call 31; refine (rcheck_nil _ _).mono ?_; rintro e w' ⟨rfl, rfl⟩)
  go_ret2
  exact ⟨rfl, rfl⟩
set_option maxRecDepth 100000 in
set_option maxHeartbeats 4000000 in
theorem rgrey_any (c d : Nat) (P : Pt) (fr : Int) (w : World) (h : RfW w c d P) : Calls Try.prog 37 #[.pointer (some ⟨c, 0, none⟩), .int .i64 fr] w fun e w' => e = .returned (.tuple #[.int .i64 ((P.greys fr).headD 0), .bool (!(P.greys fr).isEmpty)]) ∧ w = w' := by
  have H := Lib.hid h
  obtain ⟨cap, hcap, hc⟩ := h.c0
  have hn := h.ok.hi
  have HC0 := Lib.hid (rcheck_in c d P 0 w h h.ok.lo)
  have HAT := Lib.hid (at_zero P fr)
  obtain ⟨K, hK⟩ : ∃ K, (P.greys fr).headD 0 = K := ⟨_, rfl⟩
  obtain ⟨B, hB⟩ : ∃ B, (!(P.greys fr).isEmpty) = B := ⟨_, rfl⟩
  have HK := Lib.hid (And.intro hK hB)
  rw [hK, hB]
  clear h hK hB
  go_enter Try.func37, Try.ntmps37
  go_wp2_with (go_at_call 31; refine HC0.out.mono ?_; rintro e w' ⟨rfl, rfl⟩)
  go_loopw [6] (fun v wr => ∃ i : Nat, i ≤ P.n ∧ v = .int .i64 i ∧ w = wr ∧ Hid (At P fr i fr)) (fun v _ => P.n - (intOf v).toNat)
  case atStart => exact ⟨0, Nat.zero_le _, rfl, rfl, HAT.out⟩
  case round =>
    obtain ⟨i, hi, rfl, rfl, HA⟩ := hrel
    by_cases hlt : i < P.n
    · have hv := H.out.l.val hlt
      have hdl := H.out.dt
      by_cases hf : (i : Int) < fr
      · have hff : ¬ fr ≤ (i : Int) := by omega
        go_wp2
        go_roundw
        case rel => exact ⟨i + 1, by omega, by go_num, by trivial, at_skip HA.out (.inl hf)⟩
        case measure => simp [intOf]; omega
      · have hff : fr ≤ (i : Int) := by omega
        by_cases hc1 : P.c i = 1
        · have HIT := Lib.hid (at_hit HA.out hf hc1 hlt)
          rw [hc1] at hv
          clear hc1
          obtain rfl : i = K := HIT.out.1.symm.trans HK.out.1
          obtain rfl : true = B := HIT.out.2.1.symm.trans HK.out.2
          go_wp2
          go_ret2
          exact ⟨rfl, rfl⟩
        · have HSK := Lib.hid (at_skip HA.out (.inr hc1))
          obtain ⟨x, hx⟩ : ∃ x, P.c i = x := ⟨_, rfl⟩
          rw [hx] at hv hc1
          have hb : ((x : Int) == 1) = false := by simp; omega
          clear hx hc1
          go_wp2
          go_roundw
          case rel => exact ⟨i + 1, by omega, by go_num, by trivial, HSK.out⟩
          case measure => simp [intOf]; omega
    · obtain rfl : i = P.n := by omega
      have HE := Lib.hid (at_end HA.out)
      obtain rfl : 0 = K := HE.out.1.symm.trans HK.out.1
      obtain rfl : false = B := HE.out.2.symm.trans HK.out.2
      go_wp2
      go_ret2
      exact ⟨rfl, rfl⟩

/-! ### Counts -/
set_option maxHeartbeats 1000000 in
theorem rcounts_nil (w : World) : Calls Try.prog 38 #[.pointer none] w fun e w' => e = .returned (.tuple #[.int .i64 0, .int .i64 0, .int .i64 0]) ∧ Below w.heap.size w w' := by
  go_enter Try.func38, Try.ntmps38
  go_wp2_with (go_at_call 31; refine (rcheck_nil _ _).mono ?_; rintro e w' ⟨rfl, rfl⟩)
  go_quiet (fail)
  go_wp2
  go_ret3
  exact ⟨rfl, bel_drewN (bel_new w _) _⟩
/-- The numbers as far as they are counted, in a slice. -/
structure RcSt (w0 w : World) (A c d : Nat) (P : Pt) (k : Nat) : Prop where
  p : RfW w c d P
  a : Bk w A 3 (three (P.cntTo 0 k) (P.cntTo 1 k) (P.cntTo 2 k))
  bel : Below w0.heap.size w0 w
  lo : w0.heap.size ≤ A
  nd : A ≠ d
theorem RcSt.put {w0 w : World} {A c d : Nat} {P : Pt} {k j v : Nat} (h : RcSt w0 w A c d P k) (e : (three (P.cntTo 0 k) (P.cntTo 1 k) (P.cntTo 2 k)).setIfInBounds j (.int .i64 v) = three (P.cntTo 0 (k + 1)) (P.cntTo 1 (k + 1)) (P.cntTo 2 (k + 1))) {w' : World}
    (hw : Below w.heap.size w w') : RcSt w0 (w'.setCell ⟨A, j, none⟩ (.int .i64 v)) A c d P (k + 1) := by
  have hq : Kept (· = A) w' (w'.setCell ⟨A, j, none⟩ (.int .i64 v)) := (Kept.refl _ w').put1 _ _
  have hc : c ≠ A := by
    obtain ⟨_, _, _, h1⟩ := h.p.at_
    rintro rfl
    exact absurd (h1.uniq h.a).1 (by decide)
  refine ⟨(h.p.below hw).kept hq hc h.nd.symm, ?_, (bel2 h.bel hw).trans (hq.below (bel2 h.bel hw).size fun i e => by rw [e]; exact h.lo), h.lo, h.nd⟩
  rw [← e]
  exact (h.a.below hw).put j _
set_option maxRecDepth 100000 in
set_option maxHeartbeats 8000000 in
theorem rcounts_any (c d : Nat) (P : Pt) (w : World) (h : RfW w c d P) : Calls Try.prog 38 #[.pointer (some ⟨c, 0, none⟩)] w fun e w' => e = .returned (.tuple #[.int .i64 (P.cnt 0), .int .i64 (P.cnt 1), .int .i64 (P.cnt 2)]) ∧ Below w.heap.size w w' := by
  have hn := h.ok.hi
  have ST : Hid (RcSt w (w.alloc (.cells #[.int .i64 0, .int .i64 0, .int .i64 0] 3)) w.heap.size c d P 0) := ⟨h.below (bel_new _ _), Bk.new _ _ _, bel_new _ _, Nat.le_refl _, by have := h.dt; omega⟩
  clear h
  go_enter Try.func38, Try.ntmps38
  go_wp2_with (go_at_call 31; refine (rcheck_in _ _ _ 0 _ ST.out.p ST.out.p.ok.lo).mono ?_; rintro e w' ⟨rfl, rfl⟩)
  generalize w.heap.size = A at *
  generalize w.alloc (.cells #[.int .i64 0, .int .i64 0, .int .i64 0] 3) = w1 at *
  go_loopw [6] (fun v wr => ∃ k : Nat, k ≤ P.n ∧ v = .int .i64 k ∧ Hid (RcSt w wr A c d P k)) (fun v _ => P.n - (intOf v).toNat)
  case atStart => exact ⟨0, Nat.zero_le _, rfl, ST.out⟩
  case round =>
    obtain ⟨k, hk, rfl, HS⟩ := hrel
    clear ST
    have hlA := HS.out.a.lt
    have hl0 := P.cntTo_le 0 k
    have hl1 := P.cntTo_le 1 k
    have hl2 := P.cntTo_le 2 k
    by_cases hlt : k < P.n
    · obtain ⟨cap, hcap, hc⟩ := HS.out.p.c0
      have hx := HS.out.p.ok.le k
      have hv := HS.out.p.l.val hlt
      have hdl := HS.out.p.dt
      have hcl := HS.out.p.ct
      have s0 := P.cntTo_succ 0 k
      have s1 := P.cntTo_succ 1 k
      have s2 := P.cntTo_succ 2 k
      have a0 : wr.cell? ⟨A, 0, none⟩ = some (.int .i64 (P.cntTo 0 k)) := HS.out.a.cell 0
      have a1 : wr.cell? ⟨A, 1, none⟩ = some (.int .i64 (P.cntTo 1 k)) := HS.out.a.cell 1
      have a2 : wr.cell? ⟨A, 2, none⟩ = some (.int .i64 (P.cntTo 2 k)) := HS.out.a.cell 2
      have f0 := HS.out.a.frozen 0
      have f1 := HS.out.a.frozen 1
      have f2 := HS.out.a.frozen 2
      have HN := Lib.hid (And.intro s0 (And.intro s1 s2))
      clear s0 s1 s2
      have hx3 : P.c k = 0 ∨ P.c k = 1 ∨ P.c k = 2 := by omega
      rcases hx3 with hx | hx | hx
      · rw [hx] at hv HN
        clear hx
        have PUT := Lib.hid (HS.out.put (j := 0) (v := P.cntTo 0 k + 1) (by rw [HN.out.1, HN.out.2.1, HN.out.2.2, three_put0]; rfl) (bel_drewN (Below.refl _ wr) 1))
        go_wp2
        go_region
        go_wp2
        go_roundw
        case rel => exact ⟨k + 1, by omega, by go_num, PUT.out⟩
        case measure => simp [intOf]; omega
      · rw [hx] at hv HN
        clear hx
        have PUT := Lib.hid (HS.out.put (j := 1) (v := P.cntTo 1 k + 1) (by rw [HN.out.1, HN.out.2.1, HN.out.2.2, three_put1]; rfl) (bel_drewN (Below.refl _ wr) 1))
        go_wp2
        go_region
        go_wp2
        go_roundw
        case rel => exact ⟨k + 1, by omega, by go_num, PUT.out⟩
        case measure => simp [intOf]; omega
      · rw [hx] at hv HN
        clear hx
        have PUT := Lib.hid (HS.out.put (j := 2) (v := P.cntTo 2 k + 1) (by rw [HN.out.1, HN.out.2.1, HN.out.2.2, three_put2]; rfl) (bel_drewN (Below.refl _ wr) 1))
        go_wp2
        go_region
        go_wp2
        go_roundw
        case rel => exact ⟨k + 1, by omega, by go_num, PUT.out⟩
        case measure => simp [intOf]; omega
    · obtain rfl : k = P.n := by omega
      obtain ⟨cap, hcap, hc⟩ := HS.out.p.c0
      have a0 : wr.cell? ⟨A, 0, none⟩ = some (.int .i64 (P.cntTo 0 P.n)) := HS.out.a.cell 0
      have a1 : wr.cell? ⟨A, 1, none⟩ = some (.int .i64 (P.cntTo 1 P.n)) := HS.out.a.cell 1
      have a2 : wr.cell? ⟨A, 2, none⟩ = some (.int .i64 (P.cntTo 2 P.n)) := HS.out.a.cell 2
      go_wp2
      go_quiet (fail)
      go_wp2
      go_ret3
      exact ⟨rfl, bel_drewN HS.out.bel _⟩

/-! ### Clear -/
theorem rclear_nil (w : World) : Calls Try.prog 21 #[.pointer none] w fun e w' => e = .returned (.tuple #[]) ∧ w = w' := by
  go_enter Try.func21, Try.ntmps21
  go_wp2_with (go_at_call 31; refine (rcheck_nil _ _).mono ?_; rintro e w' ⟨rfl, rfl⟩)
  go_end0
  exact ⟨rfl, rfl⟩
theorem rclear_any (c d : Nat) (P : Pt) (w : World) (h : RfW w c d P) : Calls Try.prog 21 #[.pointer (some ⟨c, 0, none⟩)] w fun e w' => e = .returned (.tuple #[]) ∧ RfW w' c w.heap.size (white P.n) ∧ Kept (· = c) w w' := by
  have H := Lib.hid h
  obtain ⟨cap, hcap, hc⟩ := h.c0
  have hn := h.ok.hi
  have hmk := make_int P.n (by omega)
  have hcl := h.ct
  have hf : w.frozen? ⟨c, 0, none⟩ = false := by obtain ⟨_, _, _, k3⟩ := h.at_; exact k3.frozen 0
  have hf2 : (w.alloc (.cells (made_ P.n) 3)).frozen? ⟨c, 0, none⟩ = false := by obtain ⟨_, _, _, k3⟩ := (h.below (bel_new w (.cells (made_ P.n) 3))).at_; exact k3.frozen 0
  have hc2 : (w.alloc (.cells (made_ P.n) 3)).cell? ⟨c, 0, none⟩ = some (.slice (some ⟨d, 0, none⟩) P.n cap) := ((bel_new w _).cell (p := ⟨c, 0, none⟩) hcl).trans hc
  clear h
  go_enter Try.func21, Try.ntmps21
  go_wp2_with (go_at_call 31; refine (rcheck_in _ _ _ 0 _ H.out H.out.ok.lo).mono ?_; rintro e w' ⟨rfl, rfl⟩)
  go_end0
  have k0 : Kept (· = c) w (w.setCell ⟨c, 0, none⟩ (.slice (some ⟨w.heap.size, 0, none⟩) P.n P.n)) := (Kept.refl _ w).put1 _ _
  obtain ⟨_, _, _, k3⟩ := H.out.at_
  have b0 := (k3.put 0 (.slice (some ⟨w.heap.size, 0, none⟩) P.n P.n)).below (bel_new _ (.cells (made_ P.n) 3))
  have b1 := Bl.made (w.setCell ⟨c, 0, none⟩ (.slice (some ⟨w.heap.size, 0, none⟩) P.n P.n)) P.n
  rw [show (w.setCell ⟨c, 0, none⟩ (.slice (some ⟨w.heap.size, 0, none⟩) P.n P.n)).heap.size = w.heap.size by simp] at b1
  exact ⟨rfl, ⟨H.out.ok.white, ⟨P.n, Nat.le_refl _, by unfold maxLen; show P.n ≤ _; omega, b0⟩, b1⟩, k0.alloc _⟩
end Go.Proofs.Ythcpmcdgojgdlaa
