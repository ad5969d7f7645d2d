/- The walk of OuterRefuses. -/
import Derived.Test.YtpinmiplefidpaaGreatDoorOz
import Derived.Deep.Cut
import Derived.Deep.CutRange
import Derived.Deep.CutBlock
namespace Go.Proofs.YtpinmiplefidpaaGreatDoor
open Go.RowKit

/-- What the law keeps in its hands: the world, the resource's box, the list. -/
structure Ref (w0 w : World) (A : Ad) (W : Wd) (R : Nat) (i q g : Int) (v : Value) (l : List Ro) : Prop where
  s : WSt w0 w A W
  b : Bk w R 25 #[.int .i64 i, .int .i64 q, .int .u32 g]
  r : RowO w v l
theorem Ref.quiet {w0 w w' : World} {A : Ad} {W : Wd} {R : Nat} {i q g : Int} {v : Value} {l : List Ro} (h : Ref w0 w A W R i q g v l) (k : Below w.heap.size w w') : Ref w0 w' A W R i q g v l := ⟨h.s.quiet k, h.b.below k, h.r.below k⟩
theorem Ref.step {w0 w w' : World} {A : Ad} {W U : Wd} {R : Nat} {i q g : Int} {v : Value} {l : List Ro} (h : Ref w0 w A W R i q g v l) (f : WSt w0 w' A U) (k : WStep A w w') : Ref w0 w' A U R i q g v l := ⟨f, k.keep h.s.f h.b, h.r.step h.s.f k⟩
set_option maxRecDepth 100000 in
set_option maxHeartbeats 8000000 in
theorem ref_main (a : Option Addr) (len cap : Nat) (S : Nat → Sp) (i q g y x : Int) (w : World) (hl : len ≤ cap) (hm : cap ≤ 9223372036854775807) (hu : Sps w a len S) (hr : RgO i q g) (hy : I64 y) (he : OEnv w) (hs : Short len S 100) :
    Calls Tryz.prog 8 #[.slice a len cap, .agg #[.int .i64 i, .int .i64 q, .int .u32 g], .int .i64 y, .int .i64 x] w fun e w' => e = .returned (.bool true) ∧ Below w.heap.size w w' := by
  have n0 := Bk.new w 25 #[.int .i64 i, .int .i64 q, .int .u32 g]
  have b0 := bel_new w (.cells #[.int .i64 i, .int .i64 q, .int .u32 g] 25)
  have HE := Lib.hid he
  have HR := Lib.hid hr
  have HY := Lib.hid hy
  have SH := Lib.hid (short_yes a len cap 100 S _ hl hm (by decide) (hu.below b0) hs)
  have MD : Hid (∀ W, Below w.heap.size w W → Calls Tryz.prog 44 #[.slice a len cap] W fun e w' => ∃ A, e = .returned (.pointer (some ⟨A.b, 0, none⟩)) ∧ Hid (WSt W w' A (runs S len))) := fun W hW => made_ok a len cap S W (he.below hW) hl hm (by have := hs.1; omega) (hu.below hW) hs.2
  have N0 := Lib.hid n0
  have B0 := Lib.hid b0
  have hBL := runs_B S len
  have h100 := hs.1
  clear he hu hs n0 b0 hr hy
  generalize hv0 : w.alloc (.cells #[.int .i64 i, .int .i64 q, .int .u32 g] 25) = v0 at *
  go_enter Tryz.func8, Tryz.ntmps8
  go_wp2_with fail
  refine SH.out.mono ?_
  rintro e w1 ⟨rfl, b1⟩
  have N1 := Lib.hid (N0.out.below b1)
  have B1 := Lib.hid (bel2 B0.out b1)
  clear b1 SH N0 B0
  go_wp2_with fail
  refine (MD.out _ B1.out).mono ?_
  rintro e w2 ⟨A, rfl, hS⟩
  have N2 := Lib.hid (N1.out.below hS.out.bel)
  have S2 := Lib.hid (WSt.after B1.out hS.out)
  generalize runs S len = W at *
  clear hS MD B1 N1
  have hBL2 : W.B.length ≤ 100 := by omega
  clear hBL h100
  obtain ⟨n, hn⟩ : ∃ n, W.B.length = n := ⟨_, rfl⟩
  obtain ⟨L, hL⟩ : ∃ l, W.all = l := ⟨_, rfl⟩
  obtain ⟨T, hT⟩ : ∃ t, W.T = t := ⟨_, rfl⟩
  go_wp2_with fail
  refine (all_s L S2.out hL).mono ?_
  rintro e w3 ⟨p, c, rfl, hR, hS, hb⟩
  have S3 := Lib.hid (Ref.mk hS.out (N2.out.below hb.out) hR.out)
  clear hR hS hb S2 N2
  go_wp2_with fail
  refine (ledger_s W.B S3.out.s rfl).mono ?_
  rintro e w4 ⟨b, bk, rfl, hLd, hS, hb⟩
  have S4 := Lib.hid (S3.out.quiet hb.out)
  have LL := Lib.hid hLd.out
  clear hLd hS hb S3
  go_wp2_with fail
  refine (LG.len_ok _ _ _ _ _ LL.out).mono ?_
  rw [hn]
  rintro e w' ⟨rfl, rfl⟩
  clear LL
  go_wp2_with fail
  refine (now_s T S4.out.s hT).mono ?_
  rintro e w' ⟨rfl, rfl⟩
  obtain ⟨x0, x1, x2⟩ := LS.cells3 S4.out.b
  go_wp2_with fail
  refine (ochk_is i q g HR.out _).mono ?_
  rintro e w5 ⟨rfl, hb⟩
  have S5 := Lib.hid (S4.out.quiet hb)
  clear hb S4 x0 x1 x2
  obtain ⟨x0, x1, x2⟩ := LS.cells3 S5.out.b
  obtain ⟨PE, hPE⟩ : ∃ e, pE i q g = e := ⟨_, rfl⟩
  obtain ⟨E1, hE1⟩ : ∃ e, W.uE i q g = e := ⟨_, rfl⟩
  obtain ⟨E2, hE2⟩ : ∃ e, W.nE i q g x = e := ⟨_, rfl⟩
  rw [hPE]
  have HPE := Lib.hid hPE
  have HE1 := Lib.hid hE1
  have HE2 := Lib.hid hE2
  clear hPE hE1 hE2
  go_wp2_with fail
  refine (until_s i q g _ E1 S5.out.s HR.out rfl HE1.out).mono ?_
  rintro e w6 ⟨rfl, hS, hb⟩
  have S6 := Lib.hid (S5.out.quiet hb.out)
  clear hS hb S5 x0 x1 x2
  obtain ⟨x0, x1, x2⟩ := LS.cells3 S6.out.b
  go_wp2_with fail
  refine (ren_s i q g x E2 S6.out.s HR.out HE2.out).mono ?_
  rintro e w7 ⟨rfl, hS, hT⟩
  have S7 := Lib.hid (S6.out.step hS.out hT.out)
  clear hS hT S6 x0 x1 x2
  go_upto_region 10 with fail
  obtain ⟨SB, hSB⟩ : ∃ b, decide (LS.IsSpan x) = b := ⟨_, rfl⟩
  go_cut [17] from 49 to 54 (fun v wx => v = .bool SB ∧ wx = w7)
  case first =>
    by_cases c1 : 1 ≤ x
    · by_cases c2 : x ≤ 1048576
      · obtain rfl : SB = true := by rw [← hSB]; exact decide_eq_true ⟨c1, c2⟩
        clear hSB
        go_wp2
        go_meet
        exact ⟨rfl, rfl⟩
      · obtain rfl : SB = false := by rw [← hSB]; exact decide_eq_false (fun h => c2 h.2)
        clear hSB
        go_wp2
        go_meet
        exact ⟨rfl, rfl⟩
    · obtain rfl : SB = false := by rw [← hSB]; exact decide_eq_false (fun h => c1 h.1)
      clear hSB
      go_wp2
      go_meet
      exact ⟨rfl, rfl⟩
  case rest =>
  obtain ⟨rfl, rfl⟩ := hcut
  go_upto_block 0 with fail
  go_cut [] from 55 to 116 (fun wx => Hid (Ref w wx A (W.ren i q g x) w.heap.size i q g (.slice p L.length c) L))
  case first =>
    obtain ⟨x0, x1, x2⟩ := LS.cells3 S7.out.b
    by_cases hp : Poss i q g
    · by_cases h3 : i = 3
      · by_cases hh : W.Here i q g
        · have e1 := Wd.uE_ok (W := W) hp h3 hh
          obtain rfl : E1 = 0 := by rw [← HE1.out, e1]
          obtain rfl : PE = 0 := by rw [← HPE.out]; exact if_pos hp
          subst h3
          have HH := Lib.hid hh
          cases SB with
          | true =>
            clear hSB e1 hp hh
            go_wp2_with (go_at_call 30; refine (has_s 3 q g true S7.out.s (by rw [Wd.ren_here]; simpa using HH.out)).mono ?_; rintro e w8 ⟨rfl, hS, hb⟩; have S8 := Lib.hid (S7.out.quiet hb.out); clear hS hb)
            go_meet
            exact S8.out
          | false =>
            obtain rfl : E2 = 2 := by rw [← HE2.out]; exact Wd.nE_arg (of_decide_eq_false hSB)
            clear hSB e1 hp hh
            go_wp2_with (go_at_call 30; refine (has_s 3 q g true S7.out.s (by rw [Wd.ren_here]; simpa using HH.out)).mono ?_; rintro e w8 ⟨rfl, hS, hb⟩; have S8 := Lib.hid (S7.out.quiet hb.out); clear hS hb)
            go_meet
            exact S8.out
        · obtain ⟨e1, e2⟩ := Wd.uE_none (W := W) (x := x) hp h3 hh
          obtain rfl : E1 = 5 := by rw [← HE1.out, e1]
          obtain rfl : PE = 0 := by rw [← HPE.out]; exact if_pos hp
          subst h3
          have HH := Lib.hid hh
          cases SB with
          | true =>
            obtain rfl : E2 = 5 := by rw [← HE2.out]; exact e2 (of_decide_eq_true hSB)
            clear hSB e1 e2 hp hh
            go_wp2_with (go_at_call 30; refine (has_s 3 q g false S7.out.s (by rw [Wd.ren_here]; simpa using HH.out)).mono ?_; rintro e w8 ⟨rfl, hS, hb⟩; have S8 := Lib.hid (S7.out.quiet hb.out); clear hS hb)
            go_meet
            exact S8.out
          | false =>
            obtain rfl : E2 = 2 := by rw [← HE2.out]; exact Wd.nE_arg (of_decide_eq_false hSB)
            clear hSB e1 e2 hp hh
            go_wp2_with (go_at_call 30; refine (has_s 3 q g false S7.out.s (by rw [Wd.ren_here]; simpa using HH.out)).mono ?_; rintro e w8 ⟨rfl, hS, hb⟩; have S8 := Lib.hid (S7.out.quiet hb.out); clear hS hb)
            go_meet
            exact S8.out
      · obtain ⟨e1, e2⟩ := Wd.uE_state (W := W) (x := x) hp h3
        obtain rfl : E1 = 8 := by rw [← HE1.out, e1]
        obtain rfl : PE = 0 := by rw [← HPE.out]; exact if_pos hp
        cases SB with
        | true =>
          obtain rfl : E2 = 8 := by rw [← HE2.out]; exact e2 (of_decide_eq_true hSB)
          clear hSB e1 e2 hp
          go_wp2
          go_meet
          exact S7.out
        | false =>
          obtain rfl : E2 = 2 := by rw [← HE2.out]; exact Wd.nE_arg (of_decide_eq_false hSB)
          clear hSB e1 e2 hp
          go_wp2
          go_meet
          exact S7.out
    · obtain ⟨e1, e2⟩ := Wd.uE_arg (W := W) (x := x) hp
      obtain rfl : E1 = 2 := by rw [← HE1.out, e1]
      obtain rfl : E2 = 2 := by rw [← HE2.out, e2]
      obtain rfl : PE = 2 := by rw [← HPE.out]; exact if_neg hp
      clear e1 e2 hp
      go_wp2
      go_meet
      exact S7.out
  case rest =>
    have fA : (W.ren i q g x).all = L := Wd.ren_all.trans hL
    have fB : (W.ren i q g x).B.length = n := hn
    have fT : (W.ren i q g x).T = T := hT
    have S8 := hcut
    have hn100 : n ≤ 100 := by omega
    have hn10 : (W.ren i q g x).B.length < 10000 := by omega
    clear hcut S7 HE1 HE2 hSB hBL2 hn hL hT
    generalize W.ren i q g x = U at *
    have HA := Lib.hid fA
    have HB := Lib.hid fB
    have HT := Lib.hid fT
    have HN := Lib.hid hn10
    clear fA fB fT hn10
    go_wp2_with fail
    refine (all_s L S8.out.s HA.out).mono ?_
    rintro e v1 ⟨p', c', rfl, hR, hS, hb⟩
    have S9 := Lib.hid (S8.out.quiet hb.out)
    have Q9 := Lib.hid hR.out.rd
    clear hR hS hb S8
    go_wp2_with fail
    refine (same_yes _ _ _ _ _ _ _ Q9.out S9.out.r.rd).mono ?_
    rintro e v2 ⟨rfl, hb⟩
    have S10 := Lib.hid (S9.out.quiet hb)
    clear hb S9 Q9
    go_wp2_with fail
    refine (ledger_s U.B S10.out.s rfl).mono ?_
    rintro e v3 ⟨b', bk', rfl, hLd, hS, hb⟩
    have S11 := Lib.hid (S10.out.quiet hb.out)
    have LL := Lib.hid hLd.out
    clear hLd hS hb S10
    go_wp2_with fail
    refine (LG.len_ok _ _ _ _ _ LL.out).mono ?_
    rw [HB.out]
    rintro e w' ⟨rfl, rfl⟩
    clear LL
    go_wp2_with fail
    refine (now_s T S11.out.s HT.out).mono ?_
    rintro e w' ⟨rfl, rfl⟩
    obtain ⟨x0, x1, x2⟩ := LS.cells3 S11.out.b
    obtain ⟨HR2, hHR⟩ : ∃ b, decide (U.Here i q g) = b := ⟨_, rfl⟩
    have HH := Lib.hid hHR
    clear hHR
    go_wp2_with fail
    refine (has_s i q g HR2 S11.out.s (by rw [← HH.out]; simp)).mono ?_
    rintro e v4 ⟨rfl, hS, hb⟩
    have S12 := Lib.hid (S11.out.quiet hb.out)
    clear hS hb S11 x0 x1 x2
    obtain ⟨x0, x1, x2⟩ := LS.cells3 S12.out.b
    obtain ⟨E, hE⟩ : ∃ e, U.lE i q g y = e := ⟨_, rfl⟩
    have HLE := Lib.hid hE
    clear hE
    go_wp2_with fail
    refine (rel_s i q g y _ E HE.out S12.out.s HR.out HY.out rfl HLE.out).mono ?_
    rintro e v5 ⟨rfl, hS, hT⟩
    have S13 := Lib.hid (S12.out.step hS.out hT.out)
    clear hS hT S12 x0 x1 x2
    generalize U.lA i q g y = RA at *
    go_upto_region 26 with fail
    obtain ⟨BD, hBD⟩ : ∃ b, decide (Poss i q g ∧ 1 ≤ y ∧ y ≤ 3) = b := ⟨_, rfl⟩
    go_cut [145] from 146 to 155 (fun v wx => v = .bool (!BD) ∧ wx = v5)
    case first =>
      by_cases hp : Poss i q g
      · obtain rfl : PE = 0 := by rw [← HPE.out]; exact if_pos hp
        by_cases c1 : 1 ≤ y
        · by_cases c2 : y ≤ 3
          · obtain rfl : BD = true := by rw [← hBD]; exact decide_eq_true ⟨hp, c1, c2⟩
            clear hBD hp
            go_wp2
            go_meet
            exact ⟨by rw [show decide (y < 1) = false from decide_eq_false (by omega), show decide (3 < y) = false from decide_eq_false (by omega)]; rfl, rfl⟩
          · obtain rfl : BD = false := by rw [← hBD]; exact decide_eq_false (fun h => c2 h.2.2)
            clear hBD hp
            go_wp2
            go_meet
            exact ⟨rfl, rfl⟩
        · obtain rfl : BD = false := by rw [← hBD]; exact decide_eq_false (fun h => c1 h.2.1)
          clear hBD hp
          go_wp2
          go_meet
          exact ⟨rfl, rfl⟩
      · obtain rfl : PE = 2 := by rw [← HPE.out]; exact if_neg hp
        obtain rfl : BD = false := by rw [← hBD]; exact decide_eq_false (fun h => hp h.1)
        clear hBD hp
        go_wp2
        go_meet
        exact ⟨rfl, rfl⟩
    case rest =>
      obtain ⟨rfl, rfl⟩ := hcut
      clear HPE
      have HBD := Lib.hid hBD
      clear hBD
      cases BD with
      | false =>
        have e1 := Wd.lE_arg (W := U) (of_decide_eq_false HBD.out)
        obtain rfl : E = 2 := by rw [← HLE.out, e1]
        have e2 : U.rel i q g y = U := Wd.rel_no (by rw [e1]; decide)
        rw [e2] at S13
        clear e1 e2
        go_wp2_with fail
        refine (all_s L S13.out.s HA.out).mono ?_
        rintro e v6 ⟨p2, c2, rfl, hR, hS, hb⟩
        have S14 := Lib.hid (S13.out.quiet hb.out)
        have Q9 := Lib.hid hR.out.rd
        clear hR hS hb S13
        go_wp2_with fail
        refine (same_yes _ _ _ _ _ _ _ Q9.out S14.out.r.rd).mono ?_
        rintro e v7 ⟨rfl, hb⟩
        have S15 := Lib.hid (S14.out.quiet hb)
        clear hb S14 Q9
        go_wp2_with fail
        refine (works_ok _ (HE.out.below S15.out.s.bel)).mono ?_
        rintro e v8 ⟨rfl, hb⟩
        have B7 := Lib.hid (bel2 S15.out.s.bel hb)
        clear hb
        go_wp2
        go_ret
        exact ⟨rfl, B7.out⟩
      | true =>
        cases HR2 with
        | false =>
          have e1 := Wd.lE_none (W := U) (of_decide_eq_true HBD.out) (of_decide_eq_false HH.out)
          obtain rfl : E = 5 := by rw [← HLE.out, e1]
          have e2 : U.rel i q g y = U := Wd.rel_no (by rw [e1]; decide)
          rw [e2] at S13
          clear e1 e2
          go_wp2_with fail
          refine (all_s L S13.out.s HA.out).mono ?_
          rintro e v6 ⟨p2, c2, rfl, hR, hS, hb⟩
          have S14 := Lib.hid (S13.out.quiet hb.out)
          have Q9 := Lib.hid hR.out.rd
          clear hR hS hb S13
          go_wp2_with fail
          refine (same_yes _ _ _ _ _ _ _ Q9.out S14.out.r.rd).mono ?_
          rintro e v7 ⟨rfl, hb⟩
          have S15 := Lib.hid (S14.out.quiet hb)
          clear hb S14 Q9
          go_wp2_with fail
          refine (ledger_s U.B S15.out.s rfl).mono ?_
          rintro e v8 ⟨b2, bk2, rfl, hLd, hS, hb⟩
          have S16 := Lib.hid (S15.out.quiet hb.out)
          have LL := Lib.hid hLd.out
          clear hLd hS hb S15
          go_wp2_with fail
          refine (LG.len_ok _ _ _ _ _ LL.out).mono ?_
          rw [HB.out]
          rintro e w' ⟨rfl, rfl⟩
          clear LL
          go_wp2_with fail
          refine (works_ok _ (HE.out.below S16.out.s.bel)).mono ?_
          rintro e v9 ⟨rfl, hb⟩
          have B7 := Lib.hid (bel2 S16.out.s.bel hb)
          clear hb
          go_wp2
          go_ret
          exact ⟨rfl, B7.out⟩
        | true =>
          have e1 := Wd.lE_ok (W := U) (of_decide_eq_true HBD.out) (of_decide_eq_true HH.out) HN.out
          obtain rfl : E = 0 := by rw [← HLE.out, e1]
          have e2 : (U.rel i q g y).B.length = n + 1 := by rw [Wd.rel_B e1, List.length_append, HB.out]; rfl
          have HB2 := Lib.hid e2
          clear e1 e2
          go_wp2_with fail
          refine (ledger_s (U.rel i q g y).B S13.out.s rfl).mono ?_
          rintro e v8 ⟨b2, bk2, rfl, hLd, hS, hb⟩
          have S16 := Lib.hid (S13.out.quiet hb.out)
          have LL := Lib.hid hLd.out
          clear hLd hS hb S13
          go_wp2_with fail
          refine (LG.len_ok _ _ _ _ _ LL.out).mono ?_
          rw [HB2.out]
          rintro e w' ⟨rfl, rfl⟩
          clear LL
          go_wp2_with fail
          refine (works_ok _ (HE.out.below S16.out.s.bel)).mono ?_
          rintro e v9 ⟨rfl, hb⟩
          have B7 := Lib.hid (bel2 S16.out.s.bel hb)
          clear hb
          go_wp2
          go_ret
          exact ⟨rfl, B7.out⟩
set_option maxRecDepth 100000 in
set_option maxHeartbeats 2000000 in
theorem oRef_walk (a : Option Addr) (len cap : Nat) (S : Nat → Sp) (i q g y x : Int) (w : World) (hl : len ≤ cap) (hm : cap ≤ 9223372036854775807) (hu : Sps w a len S) (hr : RgO i q g) (hy0 : -9223372036854775808 ≤ y) (hy1 : y ≤ 9223372036854775807) (_hx0 : -9223372036854775808 ≤ x) (_hx1 : x ≤ 9223372036854775807) (he : OEnv w) :
    Calls Tryz.prog 8 #[.slice a len cap, .agg #[.int .i64 i, .int .i64 q, .int .u32 g], .int .i64 y, .int .i64 x] w fun e w' => e = .returned (.bool true) ∧ Below w.heap.size w w' := by
  by_cases hs : Short len S 100
  · exact ref_main a len cap S i q g y x w hl hm hu hr ⟨hy0, hy1⟩ he hs
  · have b0 := bel_new w (.cells #[.int .i64 i, .int .i64 q, .int .u32 g] 25)
    have SH := Lib.hid (short_no a len cap 100 S _ hl hm (by decide) (hu.below b0) hs)
    have HE := Lib.hid he
    have B0 := Lib.hid b0
    clear he hu hs b0
    generalize hv0 : w.alloc (.cells #[.int .i64 i, .int .i64 q, .int .u32 g] 25) = v0 at *
    go_enter Tryz.func8, Tryz.ntmps8
    go_wp2_with fail
    refine SH.out.mono ?_
    rintro e w1 ⟨rfl, b1⟩
    have B2 := Lib.hid (bel2 B0.out b1)
    clear b1 SH
    go_wp2_with fail
    refine (works_ok _ (HE.out.below B2.out)).mono ?_
    rintro e v ⟨rfl, hb⟩
    have B7 := Lib.hid (bel2 B2.out hb)
    clear hb
    go_wp2
    go_ret
    exact ⟨rfl, B7.out⟩
end Go.Proofs.YtpinmiplefidpaaGreatDoor
