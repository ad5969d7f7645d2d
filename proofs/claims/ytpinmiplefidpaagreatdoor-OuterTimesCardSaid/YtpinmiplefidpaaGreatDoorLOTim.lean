/- The walk of OuterTimes. -/
import Derived.Test.YtpinmiplefidpaaGreatDoorOp
import Derived.Deep.Cut
import Derived.Deep.CutRange
import Derived.Deep.RegionHeld3
namespace Go.Proofs.YtpinmiplefidpaaGreatDoor
open Go.RowKit

/-- What a round knows. -/
def Kn (n n' : Nat) (T T' d : Int) (B : List LG.Att) (o : Ro) : Prop := (n' = n ∧ T' = T) ∨ (n' = n ∧ d = 3 ∧ T ≤ T') ∨ (n' = n + 1 ∧ T' = T ∧ d = 1 ∧ ∃ h : n < B.length, B[n].t = T ∧ B[n].k = o.k ∧ B[n].i = o.i ∧ B[n].g = o.g)
theorem Kn.of {U : Wd} {s : Sp} : Kn U.B.length (U.does s).B.length U.T (U.does s).T s.d (U.does s).B s.o ∧ ∀ k (h : k < U.B.length) (h' : k < (U.does s).B.length), U.B[k] = (U.does s).B[k] := by
  rcases Wd.did (W := U) s with ⟨e, e2⟩ | ⟨e, e2⟩ | ⟨a, e, e2, e3, e4, e5, e6, e7⟩
  · rw [e]; exact ⟨.inl ⟨rfl, e2⟩, fun _ _ _ => rfl⟩
  · rw [e]; exact ⟨.inr (.inl ⟨rfl, e2⟩), fun _ _ _ => rfl⟩
  · rw [e]
    refine ⟨.inr (.inr ⟨by simp, e2, e3, by simp, ?_⟩), fun k h _ => by rw [List.getElem_append_left h]⟩
    have e8 : (U.B ++ [a])[U.B.length]'(by simp) = a := by simp
    rw [e8]
    exact ⟨e4, e5, e6, e7⟩
set_option maxRecDepth 100000 in
set_option maxHeartbeats 8000000 in
theorem tim_main (a : Option Addr) (len cap : Nat) (S : Nat → Sp) (w : World) (hl : len ≤ cap) (hm : cap ≤ 9223372036854775807) (hu : Sps w a len S) (he : OEnv w) (hs : Short len S 100) :
    Calls Tryz.prog 9 #[.slice a len cap] w fun e w' => e = .returned (.bool true) ∧ Below w.heap.size w w' := by
  have HE := Lib.hid he
  have HU := Lib.hid hu
  have HS := Lib.hid hs.2
  have SH := Lib.hid (short_yes a len cap 100 S _ hl hm (by decide) hu hs)
  have h100 := hs.1
  clear he hu hs
  go_enter Tryz.func9, Tryz.ntmps9
  go_wp2_with fail
  refine SH.out.mono ?_
  rintro e w1 ⟨rfl, b1⟩
  have B1 := Lib.hid b1
  clear b1 SH
  go_wp2_with fail
  refine (wnew_ok 1 w1 (by omega) (by omega)).mono ?_
  rintro e w0 ⟨A, rfl, hS0⟩
  have S0 : Hid (WSt w w0 A (runs S 0)) := WSt.after B1.out hS0
  clear hS0 B1
  unfold ptr
  go_wp2_with fail
  go_loopw [5, 6] (fun u v wr => ∃ (j n c : Nat) (p : Option Addr), j ≤ len ∧ u = .slice p n c ∧ v = .int .i64 j ∧ Hid (n = (runs S j).B.length ∧ WSt w wr A (runs S j) ∧ RowB wr A (.slice p n c) (runs S j).B)) (fun _ v _ => len - (intOf v).toNat)
  case atStart => exact ⟨0, 0, 0, none, Nat.zero_le _, rfl, rfl, rfl, S0.out, RowB.nil _ _⟩
  case round =>
    clear S0
    obtain ⟨j, n, c, p, hj, rfl, rfl, HI⟩ := hrel
    obtain ⟨hn, hW, hB⟩ := HI.out
    have HN := Lib.hid hn
    have HW := Lib.hid hW
    have HB := Lib.hid hB
    have hn1 : n ≤ 100 := by have := runs_B S j; omega
    clear HI hn hW hB
    by_cases hlt : j < len
    · have hn2 : (runs S (j + 1)).B.length ≤ 101 := by have := runs_B S (j + 1); omega
      obtain ⟨b, off, rfl, hb, hc⟩ := (HU.out.below HW.out.bel).at_ (by omega)
      have hok := HU.out.bd j hlt
      have ht := HS.out j hlt
      have hrun : runs S (j + 1) = (runs S j).does (S j) := rfl
      have hkn := Kn.of (U := runs S j) (s := S j)
      rw [← hrun] at hkn
      have NC : Hid (∀ W, Below w.heap.size w W → W.cell? ⟨b, off + j * 9, none⟩ = some (.int .i64 (S j).d) ∧ W.cell? ⟨b, off + j * 9 + 1, none⟩ = some (.int .i64 (S j).k) ∧ W.cell? ⟨b, off + j * 9 + 2, none⟩ = some (.int .i64 (S j).a) ∧ W.cell? ⟨b, off + j * 9 + 3, none⟩ = some (.int .i64 (S j).o.k) ∧ W.cell? ⟨b, off + j * 9 + 4, none⟩ = some (.int .i64 (S j).o.i) ∧ W.cell? ⟨b, off + j * 9 + 5, none⟩ = some (.int .u32 (S j).o.g) ∧ W.cell? ⟨b, off + j * 9 + 6, none⟩ = some (.int .i64 (S j).y) ∧ W.cell? ⟨b, off + j * 9 + 7, none⟩ = some (.int .i64 (S j).x) ∧ W.cell? ⟨b, off + j * 9 + 8, none⟩ = some (.string (S j).t)) := fun W hW => by
        obtain ⟨b', off', e, _, hc'⟩ := (HU.out.below hW).at_ (by omega)
        cases e
        exact hc' j hlt
      clear hc
      generalize S j = s at *
      obtain ⟨d, k, ar, ⟨K, I, G⟩, y, x, t⟩ := s
      obtain ⟨c0, c1, c2, c3, c4, c5, c6, c7, c8⟩ := NC.out _ HW.out.bel
      dsimp only at c0 c1 c2 c3 c4 c5 c6 c7 c8 ht NC hkn
      have DB := Lib.hid (do_s d k ar K I G y x t HE.out HW.out hok ht)
      rw [← hrun] at DB
      clear hrun
      have hUn := HN.out
      obtain ⟨hk1, hk2⟩ := hkn
      rw [← hUn] at hk1
      obtain ⟨U, hU⟩ : ∃ U, runs S j = U := ⟨_, rfl⟩
      obtain ⟨V, hV⟩ : ∃ V, runs S (j + 1) = V := ⟨_, rfl⟩
      obtain ⟨n', hn'⟩ : ∃ n', V.B.length = n' := ⟨_, rfl⟩
      obtain ⟨T, hT⟩ : ∃ T, U.T = T := ⟨_, rfl⟩
      obtain ⟨T', hT'⟩ : ∃ T, V.T = T := ⟨_, rfl⟩
      rw [hV, hn'] at hn2
      rw [hU, hV, hn', hT, hT'] at hk1
      rw [hU, hV] at hk2
      rw [hU] at HN HW HB DB
      rw [hV] at DB
      have HV := Lib.hid hV
      have HN' := Lib.hid hn'
      have HT := Lib.hid hT
      have HT' := Lib.hid hT'
      have KN := Lib.hid hk1
      have PR := Lib.hid hk2
      clear hk1 hk2 hok ht hU hV hn' hT hT' hUn
      go_wp2_with fail
      refine (now_s T HW.out HT.out).mono ?_
      rintro e w' ⟨rfl, rfl⟩
      go_wp2_with fail
      refine DB.out.mono ?_
      rintro e v1 ⟨rfl, hS, hT⟩
      have W1 := Lib.hid hS.out
      have R1 := Lib.hid (HB.out.step hT.out)
      clear hS hT DB HB HW c0 c1 c2 c3 c4 c5 c6 c7 c8
      go_wp2_with fail
      refine (ledger_s V.B W1.out rfl).mono ?_
      rintro e v2 ⟨lb, bk, rfl, hL, hS, hb⟩
      have W2 := Lib.hid hS.out
      have R2 := Lib.hid (R1.out.quiet W1.out.f hb.out)
      have L2 := Lib.hid hL.out
      clear hL hS hb R1 W1
      go_wp2_with fail
      refine (alls_s _ _ _ L2.out W2.out).mono ?_
      rw [HN'.out]
      rintro e v3 ⟨p', c', rfl, hR, hS, hb⟩
      have W3 := Lib.hid hS.out
      have R3 := Lib.hid (R2.out.quiet W2.out.f hb.out)
      have Q3 := Lib.hid hR.out
      clear hR hS hb R2 W2 L2
      obtain ⟨c0, _, _, c3, c4, c5, _⟩ := NC.out _ W3.out.bel
      go_upto_region 13 with fail
      go_cut [69] from 37 to 69 (fun v wx => v = .bool false ∧ wx = v3)
      case first =>
        rcases KN.out with ⟨rfl, rfl⟩ | ⟨rfl, rfl, hle⟩ | ⟨rfl, rfl, rfl, _⟩
        · clear KN
          go_wp2_with (go_at_call 32; refine (now_s T' W3.out HT'.out).mono ?_; rintro e w' ⟨rfl, rfl⟩)
          go_meet
          exact ⟨by first | rfl | exact congrArg Value.bool (decide_eq_false (by omega)), rfl⟩
        · by_cases h3 : T' = T
          · subst h3
            clear KN
            go_wp2_with (go_at_call 32; refine (now_s T' W3.out HT'.out).mono ?_; rintro e w' ⟨rfl, rfl⟩)
            go_meet
            exact ⟨by first | rfl | exact congrArg Value.bool (decide_eq_false (by omega)), rfl⟩
          · have hb1 : (T' == T) = false := beq_eq_false_iff_ne.2 h3
            have hb2 : decide (T' < T) = false := decide_eq_false (by omega)
            clear KN
            go_wp2_with (go_at_call 32; refine (now_s T' W3.out HT'.out).mono ?_; rintro e w' ⟨rfl, rfl⟩)
            all_goals
              go_meet
              exact ⟨by first | rfl | exact congrArg Value.bool (decide_eq_false (by omega)), rfl⟩
        · clear KN
          go_wp2_with (go_at_call 32; refine (now_s T' W3.out HT'.out).mono ?_; rintro e w' ⟨rfl, rfl⟩)
          go_meet
          exact ⟨by first | rfl | exact congrArg Value.bool (decide_eq_false (by omega)), rfl⟩
      case rest =>
        obtain ⟨rfl, rfl⟩ := hcut
        have LE : n ≤ n' := by rcases KN.out with ⟨h, _⟩ | ⟨h, _⟩ | ⟨h, _⟩ <;> omega
        clear c0 c3 c4 c5
        go_wp2_with fail
        go_loopw [9] (fun v wr2 => ∃ q : Nat, q ≤ n ∧ v = .int .i64 q ∧ Hid (Below wc.heap.size wc wr2)) (fun v _ => n - (intOf v).toNat)
        case atStart => exact ⟨0, Nat.zero_le _, rfl, Below.refl _ _⟩
        case round =>
          obtain ⟨q, hq, rfl, HB2⟩ := hrel
          by_cases hlq : q < n
          · have hq1 : q < U.B.length := by rw [← HN.out]; exact hlq
            have hq2 : q < V.B.length := by rw [HN'.out]; omega
            obtain ⟨g1, o1, e1, hg1, t0, t1, t2, t3, t4, t5⟩ := (R3.out.rd.below HB2.out).cell hq1
            obtain ⟨g2, o2, e2, hg2, u0, u1, u2, u3, u4, u5⟩ := (Q3.out.rd.below HB2.out).cell hq2
            cases e1
            cases e2
            rw [← PR.out q hq1 hq2] at u0 u1 u2 u3 u4 u5
            generalize U.B[q] = at' at *
            obtain ⟨z0, z1, z2, z3, z4, z5⟩ := at'
            dsimp only at t0 t1 t2 t3 t4 t5 u0 u1 u2 u3 u4 u5
            clear hq1 hq2
            go_wp2_with fail
            go_quiet (fail)
            go_wp2
            go_roundw
            case rel => exact ⟨q + 1, by omega, by go_num, bel_drewN HB2.out _⟩
            case measure => simp [intOf]; omega
          · obtain rfl : q = n := by omega
            clear hq hlq
            go_upto_region 20 with fail
            go_cut [131] from 85 to 131 (fun v wx => v = .bool false ∧ Hid (Below wr.heap.size wr wx))
            case first =>
              have W4 := Lib.hid (W3.out.quiet HB2.out)
              obtain ⟨c0, _, _, c3, c4, c5, _⟩ := NC.out _ W4.out.bel
              rcases KN.out with ⟨rfl, rfl⟩ | ⟨rfl, rfl, _⟩ | ⟨rfl, rfl, rfl, hx, x0, x1, x2, x3⟩
              · clear KN
                go_quiet (fail)
                go_wp2
                go_meet
                exact ⟨rfl, bel_drewN (Below.refl _ _) _⟩
              · clear KN
                go_quiet (fail)
                go_wp2
                go_meet
                exact ⟨rfl, bel_drewN (Below.refl _ _) _⟩
              · have OKa := Lib.hid (W4.out.f.ok.B _ (List.getElem_mem hx))
                obtain ⟨g2, o2, e2, hg2, u0, u1, u2, u3, u4, u5⟩ := (Q3.out.rd.below HB2.out).cell hx
                cases e2
                generalize V.B[q] = at' at *
                obtain ⟨z0, z1, z2, z3, z4, z5⟩ := at'
                dsimp only at x0 x1 x2 x3 u0 u1 u2 u3 u4 u5
                subst x0 x1 x2 x3
                have FX : Hid (∀ W, Below wr.heap.size wr W → W.cell? ⟨g2, o2 + q * 6, none⟩ = some (.int .i64 z0) ∧ W.cell? ⟨g2, o2 + q * 6 + 1, none⟩ = some (.int .i64 z1) ∧ W.cell? ⟨g2, o2 + q * 6 + 2, none⟩ = some (.int .i64 z2) ∧ W.cell? ⟨g2, o2 + q * 6 + 3, none⟩ = some (.int .u32 z3) ∧ W.cell? ⟨g2, o2 + q * 6 + 4, none⟩ = some (.int .i64 z4) ∧ W.cell? ⟨g2, o2 + q * 6 + 5, none⟩ = some (.int .i64 z5) ∧ W.cell? ⟨b, off + j * 9, none⟩ = some (.int .i64 1) ∧ W.cell? ⟨b, off + j * 9 + 3, none⟩ = some (.int .i64 z1) ∧ W.cell? ⟨b, off + j * 9 + 4, none⟩ = some (.int .i64 z2) ∧ W.cell? ⟨b, off + j * 9 + 5, none⟩ = some (.int .u32 z3)) := fun W hW => ⟨cell_keeps hW u0, cell_keeps hW u1, cell_keeps hW u2, cell_keeps hW u3, cell_keeps hW u4, cell_keeps hW u5, cell_keeps hW c0, cell_keeps hW c3, cell_keeps hW c4, cell_keeps hW c5⟩
                have D1 := Lib.hid (bel_drew (Below.refl wr.heap.size wr))
                have W5 := Lib.hid (W4.out.quiet D1.out)
                have CK : Hid (∀ W, Below wr.heap.size wr W → Calls Tryz.prog 48 #[.agg #[.int .i64 z0, .int .i64 z1, .int .i64 z2, .int .u32 z3, .int .i64 z4, .int .i64 z5]] W fun e w' => e = .returned (.int .i64 0) ∧ Below W.heap.size W w') := fun W hW => by
                  have := LG.chk_att ⟨z0, z1, z2, z3, z4, z5⟩ OKa.out.rg W (HE.out.below (bel2 W4.out.bel hW)).lg
                  unfold LG.ChkV at this
                  rw [LG.chkE_ok OKa.out] at this
                  exact this
                clear u0 u1 u2 u3 u4 u5 c0 c3 c4 c5 NC KN W4 OKa PR
                have hq0 : (0 : Int) ≤ (q : Int) := by omega
                have hq1 : (q : Int) < (q : Int) + 1 := by omega
                have hq2 : (q : Int) < ((q + 1 : Nat) : Int) := by omega
                have hq3 : (0 : Int) ≤ (j : Int) := by omega
                have hq4 : (j : Int) < (len : Int) := by omega
                have hg1 : decide ((q : Int) < (q : Int) + 1) = true := decide_eq_true (by omega)
                have hg2 : decide ((q : Int) < ((q + 1 : Nat) : Int)) = true := decide_eq_true (by omega)
                go_region_held3 (fun W => W.cell? ⟨g2, o2 + q * 6, none⟩ = some (.int .i64 z0) ∧ W.cell? ⟨g2, o2 + q * 6 + 1, none⟩ = some (.int .i64 z1) ∧ W.cell? ⟨g2, o2 + q * 6 + 2, none⟩ = some (.int .i64 z2) ∧ W.cell? ⟨g2, o2 + q * 6 + 3, none⟩ = some (.int .u32 z3) ∧ W.cell? ⟨g2, o2 + q * 6 + 4, none⟩ = some (.int .i64 z4) ∧ W.cell? ⟨g2, o2 + q * 6 + 5, none⟩ = some (.int .i64 z5) ∧ W.cell? ⟨b, off + j * 9, none⟩ = some (.int .i64 1) ∧ W.cell? ⟨b, off + j * 9 + 3, none⟩ = some (.int .i64 z1) ∧ W.cell? ⟨b, off + j * 9 + 4, none⟩ = some (.int .i64 z2) ∧ W.cell? ⟨b, off + j * 9 + 5, none⟩ = some (.int .u32 z3)) (first | (with_reducible exact hz8) | (with_reducible exact FX.out _ D1.out)) (first
                  | (go_at_call 32; refine (now_s _ W5.out HT'.out).mono ?_; rintro e w' ⟨rfl, rfl⟩)
                  | (go_at_call 48; refine (CK.out _ D1.out).mono ?_; rintro e w8 ⟨rfl, hb8⟩; have hz8 := FX.out _ (bel2 D1.out hb8); have D8 := Lib.hid (bel2 D1.out hb8); clear hb8))
                all_goals
                  go_wp2
                  go_meet
                  exact ⟨rfl, D8.out⟩
            case rest =>
              obtain ⟨rfl, HB3⟩ := hcut
              have HB4 := Lib.hid (bel2 HB2.out HB3.out)
              have E1 : Hid (n' = (runs S (j + 1)).B.length ∧ WSt w wc A (runs S (j + 1)) ∧ RowB wc A (.slice p' n' c') (runs S (j + 1)).B) := by
                refine ⟨?_, ?_, ?_⟩
                · rw [HV.out]; exact HN'.out.symm
                · rw [HV.out]; exact W3.out.quiet HB4.out
                · rw [HV.out]; exact Q3.out.quiet W3.out.f HB4.out
              clear HB2 HB3 HB4 W3 R3 Q3 KN PR NC HV HN HN' HT HT'
              go_wp2
              go_roundw
              case rel => exact ⟨j + 1, n', c', p', by omega, rfl, by go_num, E1.out⟩
              case measure => simp [intOf]; omega
    · obtain rfl : j = len := by omega
      go_wp2_with fail
      refine (works_ok _ (HE.out.below HW.out.bel)).mono ?_
      rintro e v ⟨rfl, hb⟩
      have B7 := Lib.hid (bel2 HW.out.bel hb)
      clear hb
      go_wp2
      go_ret
      exact ⟨rfl, B7.out⟩
set_option maxRecDepth 100000 in
set_option maxHeartbeats 2000000 in
theorem oTim_walk (a : Option Addr) (len cap : Nat) (S : Nat → Sp) (w : World) (hl : len ≤ cap) (hm : cap ≤ 9223372036854775807) (hu : Sps w a len S) (he : OEnv w) :
    Calls Tryz.prog 9 #[.slice a len cap] w fun e w' => e = .returned (.bool true) ∧ Below w.heap.size w w' := by
  by_cases hs : Short len S 100
  · exact tim_main a len cap S w hl hm hu he hs
  · have SH := Lib.hid (short_no a len cap 100 S _ hl hm (by decide) hu hs)
    have HE := Lib.hid he
    clear he hu hs
    go_enter Tryz.func9, Tryz.ntmps9
    go_wp2_with fail
    refine SH.out.mono ?_
    rintro e w1 ⟨rfl, b1⟩
    have B2 := Lib.hid b1
    clear b1 SH
    go_wp2_with fail
    refine (works_ok _ (HE.out.below B2.out)).mono ?_
    rintro e v ⟨rfl, hb⟩
    have B7 := Lib.hid (bel2 B2.out hb)
    clear hb
    go_wp2
    go_ret
    exact ⟨rfl, B7.out⟩
end Go.Proofs.YtpinmiplefidpaaGreatDoor
