/- The walk of LeasesPlays, where there is no such desk. -/
import Derived.Test.YtfemfgpciogbeaaZk
namespace Go.Proofs.Ytfemfgpciogbeaa
open Go.RowKit

set_option maxHeartbeats 8000000 in
set_option maxRecDepth 1000000 in
theorem plays_bad (n g : Int) (a : Option Addr) (len cap : Nat) (S : Nat → Sp) (w : World) (hn : I64 n) (hg : 0 ≤ g ∧ g ≤ 4294967295) (h : DBad n g) (hl : len ≤ 60) (hu : Sps w a len S) :
    Calls Try.prog 3 #[.int .i64 n, .int .u32 g, .slice a len cap] w fun e w' => e = .returned (.bool true) ∧ Below w.heap.size w w' := by
  have HU := Lib.hid hu
  have NW := Lib.hid (fun W => dnew_bad n g W hn hg h)
  have ND := Lib.hid (fun W => enew_bad n g W h)
  have hl2 : (len : Int) ≤ 60 := by omega
  clear hu hn hg h
  go_enter Try.func3, Try.ntmps3
  go_wp2_with (first
    | (go_at_call 11; refine (NW.out _).mono ?_; rintro e w1 ⟨rfl, rfl⟩)
    | (go_at_call 12; refine (ND.out _).mono ?_; rintro e w2 ⟨rfl, rfl⟩))
  have H0 : Hid (∃ s F o G, Hd w w (.pointer none) (.pointer none) s F (.pointer none) (.pointer none) o G) :=
    ⟨none, fun _ => False, none, fun _ => False, .inl ⟨rfl, rfl, rfl, rfl, fun _ h => h⟩, .inl ⟨rfl, rfl, rfl, rfl, fun _ h => h⟩, fun _ h => absurd h id, Below.refl _ _⟩
  clear NW ND
  go_loopw [7, 9, 11, 12, 52] (fun pv qv u v i wr => ∃ j : Nat, j ≤ len ∧ i = .int .i64 j ∧ Hid (∃ s F o G, Hd w wr pv qv s F u v o G)) (fun _ _ _ _ i _ => len - (intOf i).toNat)
  case atStart => exact ⟨0, Nat.zero_le _, rfl, H0.out⟩
  case round =>
    clear H0
    obtain ⟨j, hj, rfl, HH⟩ := hrel
    obtain ⟨s, F, o, G, hh⟩ := HH.out
    have HS := Lib.hid hh
    clear HH hh
    by_cases hlt : j < len
    · obtain ⟨B, off, rfl, hB, hcells⟩ := (HU.out.below HS.out.bel).at_ (by omega)
      obtain ⟨k0, k1, k2, k3, k4, k5⟩ := hcells j hlt
      obtain ⟨hd, ho, hx, hy⟩ := HU.out.bd j hlt
      generalize S j = M at *
      obtain ⟨d, ⟨kk, ii, gg⟩, x, y⟩ := M
      simp only at k0 k1 k2 k3 k4 k5 hd ho hx hy
      have RG : Hid (RgO kk ii gg) := ho
      have hdz : (d : Int) ≤ 255 := by omega
      have hjz : (j : Int) < len := by omega
      clear hcells ho
      go_upto_region 14 with fail
      rename_i K1 hK1 K hK
      have hK' := fun a w (h : Hid _) => hK a w h.out
      clear hK
      have IT0 : Hid (Im w (wr.alloc (.cells #[.int .u8 d, .int .i64 kk, .int .i64 ii, .int .u32 gg, .int .i64 x, .int .i64 y] 35)) u7 u9 s s F u11 u12 o G wr.heap.size #[.int .u8 d, .int .i64 kk, .int .i64 ii, .int .u32 gg, .int .i64 x, .int .i64 y]) := HS.out.im (bal _ _) (Bk.new wr 35 #[.int .u8 d, .int .i64 kk, .int .i64 ii, .int .u32 gg, .int .i64 x, .int .i64 y])
      clear k0 k1 k2 k3 k4 k5 HS hB
      generalize wr.alloc (.cells #[.int .u8 d, .int .i64 kk, .int .i64 ii, .int .u32 gg, .int .i64 x, .int .i64 y] 35) = wa at *
      generalize wr.heap.size = X at *
      obtain ⟨k0, k1, k2, k3, k4, k5⟩ := IT0.out.cx
      have hXl := IT0.out.bX.lt
      go_wp2
      unfold Hid
      go_cut [7, 9, 11, 12, 15, 16, 17, 18, 19, 20, 21, 22, 23] from 56 to 159 (fun pv qv u v a b sm _v18 _v19 _v20 _v21 _v22 _v23 wx => ∃ z : Int, a = .int .i64 z ∧ b = .int .i64 z ∧ sm = .bool true ∧ Hid (∃ s F o G, Im w wx pv qv s s F u v o G X #[.int .u8 d, .int .i64 kk, .int .i64 ii, .int .u32 gg, .int .i64 x, .int .i64 y]))
      case first =>
        clear hK1
        obtain ⟨yy, hyy⟩ : ∃ yy, (d : Int) % 6 = yy := ⟨_, rfl⟩
        rw [hyy]
        have hy2 : yy = 0 ∨ yy = 1 ∨ yy = 2 ∨ yy = 3 ∨ yy = 4 ∨ yy = 5 := by omega
        clear hyy
        rcases hy2 with rfl | rfl | rfl | rfl | rfl | rfl
        · obtain ⟨KK, II, NN, E, s', U1, U2⟩ := grant2 x y s
          have HU1 := Lib.hid U1
          have HU2 := Lib.hid U2
          clear U1 U2
          go_upto_region 17 with fail
          have IT2 : Hid (Im w ((wa.alloc (.cells #[.int .i64 0, .int .i64 0, .int .u32 0] 33)).alloc (.cells #[.int .i64 0, .int .i64 0, .int .u32 0] 33)) u7 u9 s s F u11 u12 o G X #[.int .u8 d, .int .i64 kk, .int .i64 ii, .int .u32 gg, .int .i64 x, .int .i64 y]) := (IT0.out.quiet (bal _ _)).quiet (bal _ _)
          have BA : Hid (Bk ((wa.alloc (.cells #[.int .i64 0, .int .i64 0, .int .u32 0] 33)).alloc (.cells #[.int .i64 0, .int .i64 0, .int .u32 0] 33)) wa.heap.size 33 #[.int .i64 0, .int .i64 0, .int .u32 0]) := (Bk.new wa _ _).up _
          have BC : Hid (Bk ((wa.alloc (.cells #[.int .i64 0, .int .i64 0, .int .u32 0] 33)).alloc (.cells #[.int .i64 0, .int .i64 0, .int .u32 0] 33)) (wa.heap.size + 1) 33 #[.int .i64 0, .int .i64 0, .int .u32 0]) := by
            have := Bk.new (wa.alloc (.cells #[.int .i64 0, .int .i64 0, .int .u32 0] 33)) 33 #[.int .i64 0, .int .i64 0, .int .u32 0]
            rw [World.size_alloc] at this
            exact this
          have LO : Hid (w.heap.size ≤ wa.heap.size) := IT0.out.bel.size
          clear IT0 k0 k1 k2 k3 k4 k5 hXl
          obtain ⟨k0, k1, k2, k3, k4, k5⟩ := IT2.out.cx
          have hXl := IT2.out.bX.lt
          generalize (wa.alloc (.cells #[.int .i64 0, .int .i64 0, .int .u32 0] 33)).alloc (.cells #[.int .i64 0, .int .i64 0, .int .u32 0] 33) = w2 at *
          generalize wa.heap.size = A at *
          have hAC : A ≠ A + 1 := by omega
          go_upto_region 19 with (first
            | (go_at_call 13; refine (HU1.out _ _ _ _ _ _ _ _ _ _ _ IT2.out).mono ?_; rintro e w5 ⟨rfl, J1, HB⟩; have A5 := Lib.hid (HB.out _ _ BA.out); have C5 := Lib.hid (HB.out _ _ BC.out); obtain ⟨d0, d1, d2, f0, f1, f2⟩ := laid3 A5.out; have d3 := A5.out.lt; have J2 := Lib.hid (J1.out.outer A5.out (three_kept (a := .int .i64 KK) (b := .int .i64 II) (c := .int .u32 NN)) LO.out); have A6 := Lib.hid (three_put A5.out (.int .i64 KK) (.int .i64 II) (.int .u32 NN)); have C6 := Lib.hid (C5.out.kept (three_kept (A := A) (a := .int .i64 KK) (b := .int .i64 II) (c := .int .u32 NN)) (by omega)); clear k0 k1 k2 k3 k4 k5 hXl; obtain ⟨k0, k1, k2, k3, k4, k5⟩ := J2.out.cx; have hXl := J2.out.bX.lt)
            | (go_at_call 14; refine (HU2.out _ _ _ _ _ _ _ _ _ _ _ J2.out).mono ?_; rintro e w6 ⟨rfl, J3, HB2⟩; have A7 := Lib.hid (HB2.out _ _ A6.out); have C7 := Lib.hid (HB2.out _ _ C6.out); clear d0 d1 d2 f0 f1 f2 d3 k0 k1 k2 k3 k4 k5 hXl; obtain ⟨d0, d1, d2, f0, f1, f2⟩ := laid3 C7.out; have d3 := C7.out.lt; have J4 := Lib.hid (J3.out.outer C7.out (three_kept (a := .int .i64 KK) (b := .int .i64 II) (c := .int .u32 NN)) (Nat.le_succ_of_le LO.out)); have A8 := Lib.hid (A7.out.kept (three_kept (A := A + 1) (a := .int .i64 KK) (b := .int .i64 II) (c := .int .u32 NN)) (by omega)); have C8 := Lib.hid (three_put C7.out (.int .i64 KK) (.int .i64 II) (.int .u32 NN))))
          clear d0 d1 d2 f0 f1 f2 d3
          generalize ((w6.setCell ⟨A + 1, 0, none⟩ (.int .i64 KK)).setCell ⟨A + 1, 1, none⟩ (.int .i64 II)).setCell ⟨A + 1, 2, none⟩ (.int .u32 NN) = w8 at *
          obtain ⟨g0, g1, g2, g3⟩ := ob_cells A8.out
          obtain ⟨h0, h1, h2, h3⟩ := ob_cells C8.out
          go_wp2
          go_meet
          exact ⟨E, rfl, rfl, by first | rfl | simp, s', F, o, G, J4.out⟩
        · obtain ⟨E, s', U1, U2⟩ := renew2 kk ii gg x y RG.out s
          have HU1 := Lib.hid U1
          have HU2 := Lib.hid U2
          clear U1 U2
          go_wp2
          go_region_held3 (fun W => W.cell? ⟨X, 1, none⟩ = some (.int .i64 kk) ∧ W.cell? ⟨X, 2, none⟩ = some (.int .i64 ii) ∧ W.cell? ⟨X, 3, none⟩ = some (.int .u32 gg) ∧ W.cell? ⟨X, 4, none⟩ = some (.int .i64 x) ∧ W.cell? ⟨X, 5, none⟩ = some (.int .i64 y)) (first | (with_reducible exact hz2) | (with_reducible exact hz1) | (exact ⟨k1, k2, k3, k4, k5⟩)) (first
            | (go_at_call 15; (with_reducible refine (HU1.out _ _ _ _ _ _ _ _ _ _ _ (IT0.out.quiet (by exact ⟨rfl, rfl, rfl, Nat.le_refl _, fun _ _ => rfl⟩))).mono ?_); rintro e w5 ⟨rfl, J1, _⟩; have hz1 := J1.out.cx.2)
            | (go_at_call 16; (with_reducible refine (HU2.out _ _ _ _ _ _ _ _ _ _ _ (J1.out.quiet (by exact ⟨rfl, rfl, rfl, Nat.le_refl _, fun _ _ => rfl⟩))).mono ?_); rintro e w6 ⟨rfl, J2, _⟩; have hz2 := J2.out.cx.2))
          all_goals
            go_wp2
            go_meet
            exact ⟨E, rfl, rfl, by first | rfl | simp, s', F, o, G, J2.out⟩
        · obtain ⟨E, s', U1, U2⟩ := ret2 kk ii gg RG.out s
          have HU1 := Lib.hid U1
          have HU2 := Lib.hid U2
          clear U1 U2
          go_wp2
          go_region_held3 (fun W => W.cell? ⟨X, 1, none⟩ = some (.int .i64 kk) ∧ W.cell? ⟨X, 2, none⟩ = some (.int .i64 ii) ∧ W.cell? ⟨X, 3, none⟩ = some (.int .u32 gg) ∧ W.cell? ⟨X, 4, none⟩ = some (.int .i64 x) ∧ W.cell? ⟨X, 5, none⟩ = some (.int .i64 y)) (first | (with_reducible exact hz2) | (with_reducible exact hz1) | (exact ⟨k1, k2, k3, k4, k5⟩)) (first
            | (go_at_call 17; (with_reducible refine (HU1.out _ _ _ _ _ _ _ _ _ _ _ (IT0.out.quiet (by exact ⟨rfl, rfl, rfl, Nat.le_refl _, fun _ _ => rfl⟩))).mono ?_); rintro e w5 ⟨rfl, J1, _⟩; have hz1 := J1.out.cx.2)
            | (go_at_call 18; (with_reducible refine (HU2.out _ _ _ _ _ _ _ _ _ _ _ (J1.out.quiet (by exact ⟨rfl, rfl, rfl, Nat.le_refl _, fun _ _ => rfl⟩))).mono ?_); rintro e w6 ⟨rfl, J2, _⟩; have hz2 := J2.out.cx.2))
          all_goals
            go_wp2
            go_meet
            exact ⟨E, rfl, rfl, by first | rfl | simp, s', F, o, G, J2.out⟩
        · obtain ⟨N, E, U1, U2⟩ := until2 kk ii gg RG.out s
          have HU1 := Lib.hid U1
          have HU2 := Lib.hid U2
          clear U1 U2
          go_wp2_with (first
            | (go_at_call 19; refine (HU1.out _ _ _ _ _ _ _ _ _ _ _ IT0.out).mono ?_; rintro e w5 ⟨rfl, J1, _⟩; clear k0 k1 k2 k3 k4 k5; obtain ⟨k0, k1, k2, k3, k4, k5⟩ := J1.out.cx; have hXl := J1.out.bX.lt)
            | (go_at_call 20; refine (HU2.out _ _ _ _ _ _ _ _ _ _ _ J1.out).mono ?_; rintro e w6 ⟨rfl, J2, _⟩))
          go_meet
          exact ⟨E, rfl, rfl, by first | rfl | simp, s, F, o, G, J2.out⟩
        · obtain ⟨ov, E, U1, U2⟩ := over2 kk ii gg y RG.out s
          have HU1 := Lib.hid U1
          have HU2 := Lib.hid U2
          clear U1 U2
          go_wp2_with (first
            | (go_at_call 21; refine (HU1.out _ _ _ _ _ _ _ _ _ _ _ IT0.out).mono ?_; rintro e w5 ⟨rfl, J1, _⟩; clear k0 k1 k2 k3 k4 k5; obtain ⟨k0, k1, k2, k3, k4, k5⟩ := J1.out.cx; have hXl := J1.out.bX.lt)
            | (go_at_call 22; refine (HU2.out _ _ _ _ _ _ _ _ _ _ _ J1.out).mono ?_; rintro e w6 ⟨rfl, J2, _⟩))
          go_meet
          exact ⟨E, rfl, rfl, by first | rfl | simp, s, F, o, G, J2.out⟩
        · go_wp2_with (first
            | (go_at_call 23; refine (p_copy IT0.out).mono ?_; rintro e w5 ⟨pv5, rfl, J1⟩)
            | (go_at_call 24; refine (d_copy J1.out).mono ?_; rintro e w6 ⟨qv6, rfl, J2⟩))
          go_meet
          obtain ⟨F', hI⟩ := J2.out
          exact ⟨0, rfl, rfl, rfl, s, F', s, F, hI⟩
      case rest =>
        obtain ⟨z, rfl, rfl, rfl, IH⟩ := hcut
        clear IT0 k0 k1 k2 k3 k4 k5 hXl RG
        obtain ⟨s', F', o', G', hI⟩ := IH.out
        have I0 := Lib.hid hI
        clear IH hI
        obtain ⟨NL, PL1, PL2⟩ := pr_len s'
        obtain ⟨LA, hla, PA1, PA2⟩ := pr_all s'
        obtain ⟨LO, hlo, PO1, PO2⟩ := pr_all o'
        have HL1 := Lib.hid PL1
        have HL2 := Lib.hid PL2
        have HA1 := Lib.hid PA1
        have HA2 := Lib.hid PA2
        have HO1 := Lib.hid PO1
        have HO2 := Lib.hid PO2
        clear PL1 PL2 PA1 PA2 PO1 PO2 hla hlo
        go_wp2_with fail
        refine (HL1.out _ _ _ _ _ I0.out.cur).mono ?_
        rintro e w5 ⟨rfl, hb⟩
        have I1 := Lib.hid (I0.out.quiet hb)
        clear hb I0
        go_wp2_with fail
        refine (HL2.out _ _ _ _ _ I1.out.cur).mono ?_
        rintro e w6 ⟨rfl, hb⟩
        have I2 := Lib.hid (I1.out.quiet hb)
        clear hb I1
        go_wp2_with fail
        refine (HA1.out _ _ _ _ _ I2.out.cur).mono ?_
        rintro e w7 ⟨p7, c7, rfl, R7, hb⟩
        have I3 := Lib.hid (I2.out.quiet hb.out)
        clear hb I2
        go_wp2_with fail
        refine (HA2.out _ _ _ _ _ I3.out.cur).mono ?_
        rintro e w8 ⟨p8, c8, rfl, R8, hb⟩
        have I4 := Lib.hid (I3.out.quiet hb.out)
        have R9 := Lib.hid (R7.out.below hb.out)
        clear hb I3 R7
        go_wp2_with fail
        refine (equal_yes _ _ _ _ _ _ _ _ R9.out R8.out).mono ?_
        rintro e w9 ⟨rfl, hb⟩
        have I5 := Lib.hid (I4.out.quiet hb)
        clear hb I4 R8 R9
        go_wp2_with fail
        refine (HO1.out _ _ _ _ _ I5.out.old).mono ?_
        rintro e w10 ⟨p10, c10, rfl, R7, hb⟩
        have I6 := Lib.hid (I5.out.quiet hb.out)
        clear hb I5
        go_wp2_with fail
        refine (HO2.out _ _ _ _ _ I6.out.old).mono ?_
        rintro e w11 ⟨p11, c11, rfl, R8, hb⟩
        have I7 := Lib.hid (I6.out.quiet hb.out)
        have R9 := Lib.hid (R7.out.below hb.out)
        clear hb I6 R7
        go_wp2_with fail
        refine (equal_yes _ _ _ _ _ _ _ _ R9.out R8.out).mono ?_
        rintro e w12 ⟨rfl, hb⟩
        have I8 := Lib.hid (I7.out.quiet hb)
        clear hb I7 R8 R9
        go_wp2
        go_roundw
        case rel => exact ⟨j + 1, by omega, by go_num, s', F', o', G', I8.out.hd⟩
        case measure => simp [intOf]; omega
    · obtain rfl : j = len := by omega
      have HB := Lib.hid HS.out.bel
      go_wp2_with (go_at_call 10; refine (works_ok _).mono ?_; rintro e w8 ⟨rfl, hb⟩; have H9 := Lib.hid (bel2 HB.out hb); clear hb)
      go_ret
      exact ⟨rfl, H9.out⟩
end Go.Proofs.Ytfemfgpciogbeaa
