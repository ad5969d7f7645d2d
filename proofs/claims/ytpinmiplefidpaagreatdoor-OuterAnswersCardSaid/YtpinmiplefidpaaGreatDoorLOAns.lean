/- The walk of OuterAnswers. -/
import Derived.Test.YtpinmiplefidpaaGreatDoorOta
import Derived.Deep.Cut
import Derived.Deep.CutRange
import Derived.Deep.RegionHeld3
namespace Go.Proofs.YtpinmiplefidpaaGreatDoor
open Go.RowKit

theorem mod3 (a : Int) (h0 : 0 ≤ a) : a.tmod 3 = 0 ∨ a.tmod 3 = 1 ∨ a.tmod 3 = 2 := by
  rw [Int.tmod_eq_emod_of_nonneg h0]; omega
theorem conv_one (W : World) (p : Nat) (b : UInt8) (hW : W.cell? ⟨p, 0, none⟩ = some (.int .u8 b.toNat)) :
    (convert 73 9 (.slice (some ⟨p, 0, none⟩) 1 1)).run Tryz.prog W = .ok (.string ⟨#[b]⟩) W :=
  run_convert_bytes_back (P := Tryz.prog) W 73 9 5 ⟨p, 0, none⟩ 1 [b] Tryz.underlying73 Tryz.underlying5 Tryz.underlying9 (fun j hj => by
    obtain rfl : j = 0 := by simpa using hj
    simpa [Addr.add] using hW)

set_option maxRecDepth 100000 in
set_option maxHeartbeats 8000000 in
theorem ans_main (a : Option Addr) (len cap : Nat) (S : Nat → Sp) (an kd ar wh : Int) (w : World) (hl : len ≤ cap) (hm : cap ≤ 9223372036854775807) (hu : Sps w a len S) (a0 : 0 ≤ an) (_a1 : an ≤ 255) (_hk : I64 kd) (hx : I64 ar) (h0 : 0 ≤ wh) (h1 : wh ≤ 255) (he : OEnv w) (hs : Short len S 100) :
    Calls Tryz.prog 6 #[.slice a len cap, .int .u8 an, .int .i64 kd, .int .i64 ar, .int .u8 wh] w fun e w' => e = .returned (.bool true) ∧ Below w.heap.size w w' := by
  have HE := Lib.hid he
  have HX := Lib.hid hx
  have SH := Lib.hid (short_yes a len cap 100 S _ hl hm (by decide) hu hs)
  have MD : Hid (∀ W, Below w.heap.size w W → Calls Tryz.prog 44 #[.slice a len cap] W fun e w' => ∃ A, e = .returned (.pointer (some ⟨A.b, 0, none⟩)) ∧ Hid (WSt W w' A (runs S len))) := fun W hW => made_ok a len cap S W (he.below hW) hl hm (by have := hs.1; omega) (hu.below hW) hs.2
  have hBL := runs_B S len
  have h100 := hs.1
  clear he hu hs hx
  go_enter Tryz.func6, Tryz.ntmps6
  go_wp2_with fail
  refine SH.out.mono ?_
  rintro e w1 ⟨rfl, b1⟩
  have B1 := Lib.hid b1
  clear b1 SH
  go_wp2_with fail
  refine (MD.out _ B1.out).mono ?_
  rintro e w2 ⟨A, rfl, hS⟩
  have S2 := Lib.hid (WSt.after B1.out hS.out)
  generalize runs S len = W at *
  clear hS MD B1
  have hBL2 : W.B.length ≤ 100 := by omega
  clear hBL h100
  obtain ⟨n, hn⟩ : ∃ n, W.B.length = n := ⟨_, rfl⟩
  obtain ⟨L, hL⟩ : ∃ l, W.all = l := ⟨_, rfl⟩
  have hn100 : n ≤ 100 := by omega
  have hL192 : L.length ≤ 192 := by rw [← hL]; exact S2.out.f.ok.all_le
  have HN := Lib.hid hn
  have HL := Lib.hid hL
  clear hn hL hBL2
  go_wp2_with fail
  refine (all_s L S2.out HL.out).mono ?_
  rintro e w3 ⟨p, c, rfl, hR, hS, hb⟩
  have S3 := Lib.hid hS.out
  have R3 := Lib.hid hR.out
  clear hR hS hb S2
  go_wp2_with fail
  refine (copy_s S3.out).mono ?_
  rintro e w4 ⟨C, rfl, hf, hb⟩
  have S4 := Lib.hid (And.intro (hf.out A W S3.out) (R3.out.below hb.out))
  clear hf hb S3 R3
  go_upto_region 8 with fail
  go_cut [48] from 37 to 48 (fun v wx => ∃ t : List UInt8, v = .bool (W.sE t != 0) ∧ Hid (W2 w wx A C (W.said t) W ∧ RowO wx (.slice p L.length c) L))
  case first =>
    have AN1 : Hid (∀ (b : UInt8) (W' : World), Below w4.heap.size w4 W' → Calls Tryz.prog 24 #[.pointer (some ⟨A.b, 0, none⟩), .string ⟨#[b]⟩] W' fun e w' => e = .returned (.int .i64 (W.sE [b])) ∧ Hid (W2 w w' A C (W.said [b]) W ∧ RowO w' (.slice p L.length c) L)) := fun b W' hW => by
      have h5 := S4.out.1.quiet hW
      refine (answer_s ⟨#[b]⟩ _ HE.out h5.a (show (1 : Nat) ≤ 140737488351232 by decide) rfl).mono ?_
      rintro e w' ⟨rfl, hS, hT⟩
      exact ⟨rfl, h5.stepA hS.out hT.out, (S4.out.2.below hW).step h5.a.f hT.out⟩
    rcases mod3 an a0 with hmod | hmod | hmod
    · have hcv := conv_one (w4.alloc (.cells #[.int .u8 111] 5)) w4.heap.size 111 ((Bk.new w4 5 #[.int .u8 111]).cell 0)
      have hix : (((({ data := #[111, 108, 102] } : ByteArray)[0]'(by decide)).toNat : Nat) : Int) = 111 := rfl
      have hcx := conv_one (w4.alloc (.cells #[.int .u8 ((({ data := #[111, 108, 102] } : ByteArray)[0]'(by decide)).toNat : Nat)] 5)) w4.heap.size 111 ((Bk.new w4 5 #[.int .u8 111]).cell 0)
      go_wp2_with fail
      refine (AN1.out 111 _ (bel_new _ _)).mono ?_
      rintro e w5 ⟨rfl, hst⟩
      go_wp2
      go_meet
      exact ⟨[111], rfl, hst⟩
    · have hcv := conv_one (w4.alloc (.cells #[.int .u8 108] 5)) w4.heap.size 108 ((Bk.new w4 5 #[.int .u8 108]).cell 0)
      have hix : (((({ data := #[111, 108, 102] } : ByteArray)[1]'(by decide)).toNat : Nat) : Int) = 108 := rfl
      have hcx := conv_one (w4.alloc (.cells #[.int .u8 ((({ data := #[111, 108, 102] } : ByteArray)[1]'(by decide)).toNat : Nat)] 5)) w4.heap.size 108 ((Bk.new w4 5 #[.int .u8 108]).cell 0)
      go_wp2_with fail
      refine (AN1.out 108 _ (bel_new _ _)).mono ?_
      rintro e w5 ⟨rfl, hst⟩
      go_wp2
      go_meet
      exact ⟨[108], rfl, hst⟩
    · have hcv := conv_one (w4.alloc (.cells #[.int .u8 102] 5)) w4.heap.size 102 ((Bk.new w4 5 #[.int .u8 102]).cell 0)
      have hix : (((({ data := #[111, 108, 102] } : ByteArray)[2]'(by decide)).toNat : Nat) : Int) = 102 := rfl
      have hcx := conv_one (w4.alloc (.cells #[.int .u8 ((({ data := #[111, 108, 102] } : ByteArray)[2]'(by decide)).toNat : Nat)] 5)) w4.heap.size 102 ((Bk.new w4 5 #[.int .u8 102]).cell 0)
      go_wp2_with fail
      refine (AN1.out 102 _ (bel_new _ _)).mono ?_
      rintro e w5 ⟨rfl, hst⟩
      go_wp2
      go_meet
      exact ⟨[102], rfl, hst⟩
  case rest =>
    obtain ⟨t, rfl, H5⟩ := hcut
    have fA : Hid ((W.said t).all = L) := HL.out
    have fB : Hid ((W.said t).B.length = n) := HN.out
    have fG : Hid ((W.said t).gE kd ar = W.gE kd ar) := rfl
    by_cases hsE : W.sE t = 0
    · have hb : (W.sE t != 0) = false := by rw [hsE]; rfl
      rw [hb]
      clear hb hsE S4
      generalize W.said t = U at *
      go_wp2_with fail
      refine (ledger_s U.B H5.out.1.a rfl).mono ?_
      rintro e w5 ⟨lb, bk, rfl, hLd, hS, hb⟩
      have H6 := Lib.hid (And.intro (H5.out.1.quiet hb.out) (H5.out.2.below hb.out))
      have LL := Lib.hid hLd.out
      clear hLd hS hb H5
      go_wp2_with fail
      refine (LG.len_ok _ _ _ _ _ LL.out).mono ?_
      rw [fB.out]
      rintro e w' ⟨rfl, rfl⟩
      clear LL
      obtain ⟨K1, hK1⟩ : ∃ v, U.aK kd ar = v := ⟨_, rfl⟩
      obtain ⟨I1, hI1⟩ : ∃ v, U.aI kd ar = v := ⟨_, rfl⟩
      obtain ⟨G1, hG1⟩ : ∃ v, U.aG kd ar = v := ⟨_, rfl⟩
      obtain ⟨E1, hE1⟩ : ∃ v, U.aE kd ar = v := ⟨_, rfl⟩
      obtain ⟨K2, hK2⟩ : ∃ v, W.aK kd ar = v := ⟨_, rfl⟩
      obtain ⟨I2, hI2⟩ : ∃ v, W.aI kd ar = v := ⟨_, rfl⟩
      obtain ⟨G2, hG2⟩ : ∃ v, W.aG kd ar = v := ⟨_, rfl⟩
      obtain ⟨E2, hE2⟩ : ∃ v, W.aE kd ar = v := ⟨_, rfl⟩
      have OKU := Lib.hid H6.out.1.a.f.ok
      have OKW := Lib.hid H6.out.1.b.f.ok
      have AQ := Lib.hid (acq_s kd ar K1 I1 G1 E1 H6.out.1.a HX.out hK1 hI1 hG1 hE1)
      have AC : Hid (∀ W', WSt w W' C W → _) := fun W' (hW : WSt w W' C W) => acq_s kd ar K2 I2 G2 E2 hW HX.out hK2 hI2 hG2 hE2
      have VA := Lib.hid (And.intro hK1 (And.intro hI1 (And.intro hG1 hE1)))
      have VC := Lib.hid (And.intro hK2 (And.intro hI2 (And.intro hG2 hE2)))
      clear hK1 hI1 hG1 hE1 hK2 hI2 hG2 hE2
      unfold ptr at AQ AC
      go_wp2_with fail
      refine AQ.out.mono ?_
      rintro e w6 ⟨rfl, hS, hT⟩
      have q := bel_new w6 (.cells #[.int .i64 K1, .int .i64 I1, .int .u32 G1] 25)
      have H7 := Lib.hid (And.intro ((H6.out.1.stepA hS.out hT.out).quiet q) (((H6.out.2.step H6.out.1.a.f hT.out).below q)))
      have X1 := Lib.hid (Bk.new w6 25 #[.int .i64 K1, .int .i64 I1, .int .u32 G1])
      clear hS hT q AQ H6
      go_wp2_with fail
      generalize w6.alloc (.cells #[.int .i64 K1, .int .i64 I1, .int .u32 G1] 25) = w7 at *
      generalize w6.heap.size = ob at *
      refine (AC.out _ H7.out.1.b).mono ?_
      rintro e w8 ⟨rfl, hS, hT⟩
      have q := bel_new w8 (.cells #[.int .i64 K2, .int .i64 I2, .int .u32 G2] 25)
      have SA := Lib.hid (((H7.out.1.stepB hS.out hT.out).quiet q).a)
      have RR := Lib.hid ((H7.out.2.step H7.out.1.b.f hT.out).below q)
      have X1 := Lib.hid ((hT.out.keep H7.out.1.b.f X1.out).below q)
      have X2 := Lib.hid (Bk.new w8 25 #[.int .i64 K2, .int .i64 I2, .int .u32 G2])
      clear hS hT q AC H7
      go_upto_region 13 with fail
      generalize w8.alloc (.cells #[.int .i64 K2, .int .i64 I2, .int .u32 G2] 25) = w9 at *
      generalize w8.heap.size = pb at *
      by_cases hg : W.gE kd ar = 0
      · have hgU : U.gE kd ar = 0 := fG.out.trans hg
        have hE2 : E2 = 0 ∨ E2 = 15 ∨ E2 = 14 := by rw [← VC.out.2.2.2]; exact OKW.out.aE_vals hg
        have hE1 : E1 = 0 ∨ E1 = 15 ∨ E1 = 14 := by rw [← VA.out.2.2.2]; exact OKU.out.aE_vals hgU
        have KE1 := Lib.hid hE1
        clear hE1 hgU hg VC X2 OKW
        go_cut [80] from 71 to 80 (fun v wx => v = .bool false ∧ wx = w9)
        case first =>
          rcases hE2 with rfl | rfl | rfl
          · go_wp2
            go_meet
            exact ⟨rfl, rfl⟩
          · go_wp2
            go_meet
            exact ⟨rfl, rfl⟩
          · go_wp2
            go_meet
            exact ⟨rfl, rfl⟩
        case rest =>
          obtain ⟨rfl, rfl⟩ := hcut
          clear hE2
          have fVB : Hid ((U.acq kd ar).B.length = n) := by unfold Hid; rw [Wd.acq_B]; exact fB.out
          go_upto_region 15 with fail
          go_cut [140] from 98 to 140 (fun v wx => v = .bool false ∧ Hid (WSt w wx A (U.acq kd ar)))
          case first =>
            obtain ⟨x0, x1, x2⟩ := LS.cells3 X1.out
            rcases KE1.out with rfl | rfl | rfl
            · have ha := VA.out.2.2.2
              have hlen : (U.acq kd ar).all.length = L.length + 1 := by rw [OKU.out.acq_len ha, fA.out]
              have hh := OKU.out.acq_here ha
              rw [VA.out.1, VA.out.2.1, VA.out.2.2.1] at hh
              have HHH := Lib.hid hh
              have HLN := Lib.hid hlen
              clear hh hlen ha KE1 VA
              go_wp2_with fail
              refine (all_s _ SA.out rfl).mono ?_
              rw [HLN.out]
              rintro e v1 ⟨p2, c2, rfl, hR, hS, hb⟩
              have S14 := Lib.hid hS.out
              have X3 := Lib.hid (X1.out.below hb.out)
              clear hR hS hb SA X1 x0 x1 x2
              obtain ⟨x0, x1, x2⟩ := LS.cells3 X3.out
              go_wp2_with fail
              refine (has_s K1 I1 G1 true S14.out (by simpa using HHH.out)).mono ?_
              rintro e v2 ⟨rfl, hS, hb⟩
              have S15 := Lib.hid hS.out
              clear hS hb S14 x0 x1 x2 X3
              go_wp2_with fail
              refine (ledger_s (U.acq kd ar).B S15.out rfl).mono ?_
              rintro e v3 ⟨lb, bk, rfl, hLd, hS, hb⟩
              have S16 := Lib.hid hS.out
              have LL := Lib.hid hLd.out
              clear hLd hS hb S15
              go_wp2_with fail
              refine (LG.len_ok _ _ _ _ _ LL.out).mono ?_
              rw [fVB.out]
              rintro e w' ⟨rfl, rfl⟩
              go_wp2
              go_meet
              exact ⟨rfl, S16.out⟩
            · have ha : U.aE kd ar ≠ 0 := by rw [VA.out.2.2.2]; decide
              have hall : (U.acq kd ar).all = L := (Wd.acq_no_all ha).trans fA.out
              have HAL := Lib.hid hall
              clear hall ha KE1 VA x0 x1 x2 X1
              go_wp2_with fail
              refine (all_s L SA.out HAL.out).mono ?_
              rintro e v1 ⟨p2, c2, rfl, hR, hS, hb⟩
              have S14 := Lib.hid hS.out
              have R14 := Lib.hid (RR.out.below hb.out)
              have Q9 := Lib.hid hR.out.rd
              clear hR hS hb SA RR
              go_wp2_with fail
              refine (same_yes _ _ _ _ _ _ _ Q9.out R14.out.rd).mono ?_
              rintro e v2 ⟨rfl, hb⟩
              have S15 := Lib.hid (S14.out.quiet hb)
              clear hb S14 Q9 R14
              go_wp2_with fail
              refine (ledger_s (U.acq kd ar).B S15.out rfl).mono ?_
              rintro e v3 ⟨lb, bk, rfl, hLd, hS, hb⟩
              have S16 := Lib.hid hS.out
              have LL := Lib.hid hLd.out
              clear hLd hS hb S15
              go_wp2_with fail
              refine (LG.len_ok _ _ _ _ _ LL.out).mono ?_
              rw [fVB.out]
              rintro e w' ⟨rfl, rfl⟩
              go_wp2
              go_meet
              exact ⟨rfl, S16.out⟩
            · have ha : U.aE kd ar ≠ 0 := by rw [VA.out.2.2.2]; decide
              have hall : (U.acq kd ar).all = L := (Wd.acq_no_all ha).trans fA.out
              have HAL := Lib.hid hall
              clear hall ha KE1 VA x0 x1 x2 X1
              go_wp2_with fail
              refine (all_s L SA.out HAL.out).mono ?_
              rintro e v1 ⟨p2, c2, rfl, hR, hS, hb⟩
              have S14 := Lib.hid hS.out
              have R14 := Lib.hid (RR.out.below hb.out)
              have Q9 := Lib.hid hR.out.rd
              clear hR hS hb SA RR
              go_wp2_with fail
              refine (same_yes _ _ _ _ _ _ _ Q9.out R14.out.rd).mono ?_
              rintro e v2 ⟨rfl, hb⟩
              have S15 := Lib.hid (S14.out.quiet hb)
              clear hb S14 Q9 R14
              go_wp2_with fail
              refine (ledger_s (U.acq kd ar).B S15.out rfl).mono ?_
              rintro e v3 ⟨lb, bk, rfl, hLd, hS, hb⟩
              have S16 := Lib.hid hS.out
              have LL := Lib.hid hLd.out
              clear hLd hS hb S15
              go_wp2_with fail
              refine (LG.len_ok _ _ _ _ _ LL.out).mono ?_
              rw [fVB.out]
              rintro e w' ⟨rfl, rfl⟩
              go_wp2
              go_meet
              exact ⟨rfl, S16.out⟩
          case rest =>
            obtain ⟨rfl, S1⟩ := hcut
            have hnB := fVB
            clear KE1 VA SA X1 RR fA fB fG fVB OKU HN HL
            generalize U.acq kd ar = V at *
            have hM192 : V.all.length ≤ 192 := S1.out.f.ok.all_le
            go_wp2_with fail
            refine (all_s _ S1.out rfl).mono ?_
            rintro e v1 ⟨p2, c2, rfl, hR, hS, hb⟩
            have S2 := Lib.hid hS.out
            have R2 := Lib.hid hR.out.rd
            clear hR hS hb S1
            obtain ⟨m, hm⟩ : ∃ m, V.all.length = m := ⟨_, rfl⟩
            rw [hm] at hM192 R2 ⊢
            have HM := Lib.hid hm
            clear hm
            by_cases hm0 : m = 0
            · subst hm0
              go_wp2_with fail
              refine (works_ok _ (HE.out.below S2.out.bel)).mono ?_
              rintro e v3 ⟨rfl, hb⟩
              have B7 := Lib.hid (bel2 S2.out.bel hb)
              clear hb
              go_wp2
              go_ret
              exact ⟨rfl, B7.out⟩
            · obtain ⟨q, hq, hmod⟩ : ∃ q : Nat, q < m ∧ wh.tmod (m : Int) = q := ⟨(wh.tmod m).toNat, by
                rw [Int.tmod_eq_emod_of_nonneg h0]
                have := Int.emod_lt_of_pos wh (show (0 : Int) < m by omega)
                have := Int.emod_nonneg wh (show (m : Int) ≠ 0 by omega)
                omega, by
                rw [Int.tmod_eq_emod_of_nonneg h0]
                have := Int.emod_nonneg wh (show (m : Int) ≠ 0 by omega)
                omega⟩
              have hqV : q < V.all.length := by rw [HM.out]; exact hq
              obtain ⟨g2, o2, rfl, hg2, t0, t1, t2⟩ := R2.out.cell hqV
              have hmem : (V.all[q]) ∈ V.all := List.getElem_mem hqV
              generalize V.all[q] = xo at *
              obtain ⟨k, i, g⟩ := xo
              dsimp only at t0 t1 t2
              have hHere := S2.out.f.ok.mem.1 hmem
              have hPoss := S2.out.f.ok.poss hHere
              have hl0 : V.lE k i g 3 = 0 := Wd.lE_ok ⟨hPoss, by decide, by decide⟩ hHere (by rw [hnB.out]; omega)
              have hr : RgO k i g := by
                have := S2.out.f.ok.gen hHere
                obtain ⟨b1, b2, b3, b4, b5⟩ := hPoss
                exact ⟨by omega, by omega, by omega, by omega, by omega, this⟩
              obtain ⟨a', ha'⟩ : ∃ a', V.h = a' := ⟨_, rfl⟩
              have hans := S2.out.f.ok.ans
              rw [ha'] at hans
              have hlA : V.lA k i g 3 = a' := by unfold Wd.lA; rw [if_pos hl0, ha']
              have hBB := Wd.rel_B hl0
              obtain ⟨T, hT⟩ : ∃ T, V.T = T := ⟨_, rfl⟩
              have hTT : (V.rel k i g 3).T = T := Wd.rel_T.trans hT
              have hatt : V.att k i g 3 = ⟨T, k, i, g, 3, a'⟩ := by unfold Wd.att; rw [hT, ha']
              rw [hatt] at hBB
              have hBn : (V.rel k i g 3).B.length = n + 1 := by rw [hBB, List.length_append, hnB.out]; rfl
              have hBl : ∃ h : n < (V.rel k i g 3).B.length, (V.rel k i g 3).B[n] = ⟨T, k, i, g, 3, a'⟩ := ⟨by omega, by
                have e0 := hnB.out
                subst e0
                simp only [hBB]
                simp⟩
              have hgone : (decide ((V.rel k i g 3).Here k i g)) = (a' != 1) := by
                by_cases c1 : a' = 1
                · subst c1
                  have := S2.out.f.ok.rel_gone hl0 ha'
                  simp [this]
                · have : (V.rel k i g 3).Here k i g := (Wd.Ok.rel_stays (k := k) (i := i) (g := g) (y := 3) S2.out.f.ok (fun c => c1 (ha'.symm.trans c.2))).2 hHere
                  simp [this, c1]
              have RS := Lib.hid (rel_s k i g 3 a' 0 HE.out (S2.out.quiet (bel_new v1 (.cells #[.int .i64 k, .int .i64 i, .int .u32 g] 25))) hr ⟨by decide, by decide⟩ hlA hl0)
              have X1 := Lib.hid (Bk.new v1 25 #[.int .i64 k, .int .i64 i, .int .u32 g])
              have S3 := Lib.hid (S2.out.quiet (bel_new v1 (.cells #[.int .i64 k, .int .i64 i, .int .u32 g] 25)))
              have C1 := Lib.hid hBn
              have C2 := Lib.hid hBl
              have C3 := Lib.hid hTT
              have C4 := Lib.hid hgone
              clear hlA hBB hatt hBn hBl hgone hTT hT ha' hl0 hPoss hHere hmem hqV HM hnB hr
              obtain ⟨x0, x1, x2⟩ := LS.cells3 X1.out
              unfold ptr at RS
              go_wp2_with fail
              generalize v1.alloc (.cells #[.int .i64 k, .int .i64 i, .int .u32 g] 25) = v2 at *
              generalize v1.heap.size = xb at *
              refine RS.out.mono ?_
              rintro e v3 ⟨rfl, hS, hTt⟩
              have S4 := Lib.hid hS.out
              have X2 := Lib.hid (hTt.out.keep S3.out.f X1.out)
              clear hS hTt RS X1 S3 S2 R2 t0 t1 t2 x0 x1 x2
              generalize V.rel k i g 3 = Y at *
              go_wp2_with fail
              refine (ledger_s Y.B S4.out rfl).mono ?_
              rintro e v4 ⟨lb, bk, rfl, hLd, hS, hb⟩
              have S5 := Lib.hid hS.out
              have LL := Lib.hid hLd.out
              have X3 := Lib.hid (X2.out.below hb.out)
              clear hLd hS hb S4 X2
              go_wp2_with fail
              refine (alls_s _ _ _ LL.out S5.out).mono ?_
              rw [C1.out]
              rintro e v5 ⟨p3, c3, rfl, hR, hS, hb⟩
              have S6 := Lib.hid hS.out
              have Q6 := Lib.hid hR.out.rd
              have X4 := Lib.hid (X3.out.below hb.out)
              clear hR hS hb S5 X3 LL
              go_wp2_with fail
              refine (ledger_s Y.B S6.out rfl).mono ?_
              rintro e v6 ⟨lb2, bk2, rfl, hLd, hS, hb⟩
              have S7 := Lib.hid hS.out
              have LL := Lib.hid hLd.out
              have X5 := Lib.hid (X4.out.below hb.out)
              have Q7 := Lib.hid (Q6.out.below hb.out)
              clear hLd hS hb S6 X4 Q6
              go_wp2_with fail
              refine (LG.len_ok _ _ _ _ _ LL.out).mono ?_
              rw [C1.out, show (((n + 1 : Nat)) : Int) = (n : Int) + 1 by omega]
              rintro e w' ⟨rfl, rfl⟩
              clear LL
              obtain ⟨hx, hxe⟩ := C2.out
              obtain ⟨g3, o3, rfl, hg3, u0, u1, u2, u3, u4, u5⟩ := Q7.out.cell hx
              rw [hxe] at u0 u1 u2 u3 u4 u5
              dsimp only at u0 u1 u2 u3 u4 u5
              obtain ⟨x0, x1, x2⟩ := LS.cells3 X5.out
              have FX : Hid (∀ W, Below v6.heap.size v6 W → W.cell? ⟨g3, o3 + n * 6, none⟩ = some (.int .i64 T) ∧ W.cell? ⟨g3, o3 + n * 6 + 1, none⟩ = some (.int .i64 k) ∧ W.cell? ⟨g3, o3 + n * 6 + 2, none⟩ = some (.int .i64 i) ∧ W.cell? ⟨g3, o3 + n * 6 + 3, none⟩ = some (.int .u32 g) ∧ W.cell? ⟨g3, o3 + n * 6 + 4, none⟩ = some (.int .i64 3) ∧ W.cell? ⟨g3, o3 + n * 6 + 5, none⟩ = some (.int .i64 a') ∧ W.cell? ⟨xb, 0, none⟩ = some (.int .i64 k) ∧ W.cell? ⟨xb, 1, none⟩ = some (.int .i64 i) ∧ W.cell? ⟨xb, 2, none⟩ = some (.int .u32 g)) := fun W hW => ⟨cell_keeps hW u0, cell_keeps hW u1, cell_keeps hW u2, cell_keeps hW u3, cell_keeps hW u4, cell_keeps hW u5, cell_keeps hW x0, cell_keeps hW x1, cell_keeps hW x2⟩
              have D1 := Lib.hid (bel_drew (Below.refl v6.heap.size v6))
              have S8 := Lib.hid (S7.out.quiet D1.out)
              clear u0 u1 u2 u3 u4 u5 x0 x1 x2 hx hxe C1 C2 X5 Q7
              have hn0 : (0 : Int) ≤ (n : Int) := by omega
              have hn1 : (n : Int) < (n : Int) + 1 := by omega
              have hn2 : (n : Int) < ((n + 1 : Nat) : Int) := by omega
              have hn3 : IntKind.i64.wrap ((n : Int) + 1) = (n : Int) + 1 := by rw [IntKind.wrap_i64]; omega
              have hn4 : IntKind.i64.wrap ((n : Int) + 1 - 1) = (n : Int) := by rw [IntKind.wrap_i64]; omega
              have hn5 : IntKind.i64.wrap (n : Int) = (n : Int) := by rw [IntKind.wrap_i64]; omega
              have hn6 : ((n : Int) + 1 == (n : Int) + 1) = true := by simp
              go_upto_region 23 with fail
              go_cut [195] from 167 to 195 (fun v wx => v = .bool false ∧ Hid (Below v6.heap.size v6 wx))
              case first =>
                go_region_held3 (fun W => W.cell? ⟨g3, o3 + n * 6, none⟩ = some (.int .i64 T) ∧ W.cell? ⟨g3, o3 + n * 6 + 1, none⟩ = some (.int .i64 k) ∧ W.cell? ⟨g3, o3 + n * 6 + 2, none⟩ = some (.int .i64 i) ∧ W.cell? ⟨g3, o3 + n * 6 + 3, none⟩ = some (.int .u32 g) ∧ W.cell? ⟨g3, o3 + n * 6 + 4, none⟩ = some (.int .i64 3) ∧ W.cell? ⟨g3, o3 + n * 6 + 5, none⟩ = some (.int .i64 a') ∧ W.cell? ⟨xb, 0, none⟩ = some (.int .i64 k) ∧ W.cell? ⟨xb, 1, none⟩ = some (.int .i64 i) ∧ W.cell? ⟨xb, 2, none⟩ = some (.int .u32 g)) (first | (with_reducible exact hz8) | (with_reducible exact FX.out _ D1.out)) (first
                  | (go_at_call 32; refine (now_s T S8.out C3.out).mono ?_; rintro e w' ⟨rfl, rfl⟩)
                  | (go_at_call 30; refine (has_s k i g (a' != 1) S8.out (by rw [← C4.out]; simp)).mono ?_; rintro e w8 ⟨rfl, hS8, hb8⟩; have hz8 := FX.out _ (bel2 D1.out hb8.out); have D8 := Lib.hid (bel2 D1.out hb8.out); clear hb8 hS8))
                all_goals
                  go_wp2
                  go_meet
                  exact ⟨by first | rfl | simp, D8.out⟩
              case rest =>
                obtain ⟨rfl, HB3⟩ := hcut
                have B8 := Lib.hid (bel2 S7.out.bel HB3.out)
                clear FX D1 S8 S7 HB3 hn0 hn1 hn2 hn3 hn4 hn5 hn6
                obtain ⟨hans1, hans2⟩ := hans
                go_wp2_with fail
                refine (works_ok _ (HE.out.below B8.out)).mono ?_
                rintro e v9 ⟨rfl, hb⟩
                have B9 := Lib.hid (bel2 B8.out hb)
                clear hb
                go_wp2
                go_ret
                exact ⟨rfl, B9.out⟩
      · have hgU : U.gE kd ar ≠ 0 := by rw [fG.out]; exact hg
        obtain ⟨z1, z2⟩ := Wd.aE_ne hg
        obtain ⟨z3, z4⟩ := Wd.aE_ne hgU
        obtain ⟨v1, v2, v3, v4⟩ := VA.out
        obtain ⟨v5, v6, v7, v8⟩ := VC.out
        have en : U.aE kd ar ≠ 0 := by rw [z3]; exact hgU
        have en2 : W.aE kd ar ≠ 0 := by rw [z1]; exact hg
        obtain ⟨u1, u2, u3⟩ := Wd.a_ne en
        obtain ⟨u4, u5, u6⟩ := Wd.a_ne en2
        obtain rfl : K1 = 0 := by rw [← v1, u1]
        obtain rfl : I1 = 0 := by rw [← v2, u2]
        obtain rfl : G1 = 0 := by rw [← v3, u3]
        obtain rfl : K2 = 0 := by rw [← v5, u4]
        obtain rfl : I2 = 0 := by rw [← v6, u5]
        obtain rfl : G2 = 0 := by rw [← v7, u6]
        obtain rfl : E1 = E2 := by rw [← v4, ← v8, z1, z3]; exact fG.out
        have hv : E1 = 2 ∨ E1 = 4 ∨ E1 = 17 := by
          rw [← v8, z1]
          rcases Wd.gE_vals (W := W) (k := kd) (x := ar) with h | h | h | h
          · exact absurd h hg
          · exact .inl h
          · exact .inr (.inl h)
          · exact .inr (.inr h)
        rw [z4] at SA
        clear z1 z2 z3 z4 v1 v2 v3 v4 v5 v6 v7 v8 u1 u2 u3 u4 u5 u6 en en2 hgU hg VA VC
        go_cut [80] from 71 to 80 (fun v wx => v = .bool true ∧ wx = w9)
        case first =>
          rcases hv with rfl | rfl | rfl
          · go_wp2
            go_meet
            exact ⟨rfl, rfl⟩
          · go_wp2
            go_meet
            exact ⟨rfl, rfl⟩
          · go_wp2
            go_meet
            exact ⟨rfl, rfl⟩
        case rest =>
          obtain ⟨rfl, rfl⟩ := hcut
          clear hv
          go_wp2_with fail
          refine (all_s L SA.out fA.out).mono ?_
          rintro e v1 ⟨p2, c2, rfl, hR, hS, hb⟩
          have S14 := Lib.hid hS.out
          have R14 := Lib.hid (RR.out.below hb.out)
          have Q9 := Lib.hid hR.out.rd
          have X3 := Lib.hid (X1.out.below hb.out)
          have X4 := Lib.hid (X2.out.below hb.out)
          clear hR hS hb SA RR X1 X2
          go_wp2_with fail
          refine (same_yes _ _ _ _ _ _ _ Q9.out R14.out.rd).mono ?_
          rintro e v2 ⟨rfl, hb⟩
          have S15 := Lib.hid (S14.out.quiet hb)
          obtain ⟨x0, x1, x2⟩ := LS.cells3 (X3.out.below hb)
          obtain ⟨y0, y1, y2⟩ := LS.cells3 (X4.out.below hb)
          clear hb S14 Q9
          go_wp2_with fail
          refine (works_ok _ (HE.out.below S15.out.bel)).mono ?_
          rintro e v3 ⟨rfl, hb⟩
          have B7 := Lib.hid (bel2 S15.out.bel hb)
          clear hb x0 x1 x2 y0 y1 y2
          go_wp2
          go_ret
          exact ⟨rfl, B7.out⟩
    · have hb : (W.sE t != 0) = true := by simp [hsE]
      rw [hb]
      clear hb hsE
      go_wp2_with fail
      refine (works_ok _ (HE.out.below H5.out.1.a.bel)).mono ?_
      rintro e v3 ⟨rfl, hb⟩
      have B7 := Lib.hid (bel2 H5.out.1.a.bel hb)
      clear hb
      go_wp2
      go_ret
      exact ⟨rfl, B7.out⟩
set_option maxRecDepth 100000 in
set_option maxHeartbeats 2000000 in
theorem oAns_walk (a : Option Addr) (len cap : Nat) (S : Nat → Sp) (an kd ar wh : Int) (w : World) (hl : len ≤ cap) (hm : cap ≤ 9223372036854775807) (hu : Sps w a len S) (a0 : 0 ≤ an) (a1 : an ≤ 255) (k0 : -9223372036854775808 ≤ kd) (k1 : kd ≤ 9223372036854775807) (r0 : -9223372036854775808 ≤ ar) (r1 : ar ≤ 9223372036854775807) (h0 : 0 ≤ wh) (h1 : wh ≤ 255) (he : OEnv w) :
    Calls Tryz.prog 6 #[.slice a len cap, .int .u8 an, .int .i64 kd, .int .i64 ar, .int .u8 wh] w fun e w' => e = .returned (.bool true) ∧ Below w.heap.size w w' := by
  by_cases hs : Short len S 100
  · exact ans_main a len cap S an kd ar wh w hl hm hu a0 a1 ⟨k0, k1⟩ ⟨r0, r1⟩ h0 h1 he hs
  · have SH := Lib.hid (short_no a len cap 100 S _ hl hm (by decide) hu hs)
    have HE := Lib.hid he
    clear he hu hs
    go_enter Tryz.func6, Tryz.ntmps6
    go_wp2_with fail
    refine SH.out.mono ?_
    rintro e w1 ⟨rfl, b1⟩
    have B2 := Lib.hid b1
    clear b1 SH
    go_wp2_with fail
    refine (works_ok _ (HE.out.below B2.out)).mono ?_
    rintro e v ⟨rfl, hb⟩
    have B7 := Lib.hid (bel2 B2.out hb)
    clear hb
    go_wp2
    go_ret
    exact ⟨rfl, B7.out⟩
end Go.Proofs.YtpinmiplefidpaaGreatDoor
