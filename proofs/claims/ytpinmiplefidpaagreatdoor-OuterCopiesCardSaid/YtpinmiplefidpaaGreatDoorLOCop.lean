/- The walk of OuterCopies. -/
import Derived.Test.YtpinmiplefidpaaGreatDoorOy
namespace Go.Proofs.YtpinmiplefidpaaGreatDoor
open Go.RowKit

set_option maxRecDepth 100000 in
set_option maxHeartbeats 8000000 in
theorem cop_main (a1 : Option Addr) (len1 cap1 : Nat) (S1 : Nat → Sp) (a2 : Option Addr) (len2 cap2 : Nat) (S2 : Nat → Sp) (w : World) (hl1 : len1 ≤ cap1) (hm1 : cap1 ≤ 9223372036854775807) (hu1 : Sps w a1 len1 S1) (hl2 : len2 ≤ cap2) (hm2 : cap2 ≤ 9223372036854775807) (hu2 : Sps w a2 len2 S2) (he : OEnv w) (hs1 : Short len1 S1 80) (hs2 : Short len2 S2 40) :
    Calls Tryz.prog 10 #[.slice a1 len1 cap1, .slice a2 len2 cap2] w fun e w' => e = .returned (.bool true) ∧ Below w.heap.size w w' := by
  have HE := Lib.hid he
  have HU1 := Lib.hid hu1
  have HU2 := Lib.hid hu2
  have SH1 := Lib.hid (short_yes a1 len1 cap1 80 S1 w hl1 hm1 (by decide) hu1 hs1)
  have SH2 : Hid (∀ W, Below w.heap.size w W → Calls Tryz.prog 12 #[.slice a2 len2 cap2, .int .i64 40] W fun e w' => e = .returned (.bool true) ∧ Below W.heap.size W w') := fun W hW => short_yes a2 len2 cap2 40 S2 W hl2 hm2 (by decide) (hu2.below hW) hs2
  have MD : Hid (∀ W, Below w.heap.size w W → Calls Tryz.prog 44 #[.slice a1 len1 cap1] W fun e w' => ∃ A, e = .returned (.pointer (some ⟨A.b, 0, none⟩)) ∧ Hid (WSt W w' A (runs S1 len1))) := fun W hW => made_ok a1 len1 cap1 S1 W (he.below hW) hl1 hm1 (by have := hs1.1; omega) (hu1.below hW) hs1.2
  have HS2 := Lib.hid hs2.2
  have h40 := hs2.1
  clear he hu1 hu2 hs1 hs2
  go_enter Tryz.func10, Tryz.ntmps10
  go_wp2_with fail
  refine SH1.out.mono ?_
  rintro e w1 ⟨rfl, b1⟩
  have B1 := Lib.hid b1
  clear b1 SH1
  go_wp2_with fail
  refine (SH2.out _ B1.out).mono ?_
  rintro e w2 ⟨rfl, b2⟩
  have B2 := Lib.hid (bel2 B1.out b2)
  clear b2 SH2 B1
  go_wp2_with fail
  refine (MD.out _ B2.out).mono ?_
  rintro e w3 ⟨A, rfl, hS⟩
  obtain ⟨R, hR⟩ : ∃ R, runs S1 len1 = R := ⟨_, rfl⟩
  rw [hR] at hS MD
  have SA : Hid (WSt w w3 A R) := WSt.after B2.out hS.out
  clear hS hR B2
  go_wp2_with fail
  refine (copy_s SA.out).mono ?_
  rintro e w4 ⟨B, rfl, hf, hb⟩
  have AB := Lib.hid (hf.out A R SA.out)
  clear hf hb SA
  go_wp2_with fail
  refine (copy_s AB.out.a).mono ?_
  rintro e w5 ⟨C, rfl, hf, hb⟩
  have S0 : Hid (W3 w w5 A B C R (goes R S2 0) (goes R S2 0)) := ⟨AB.out.quiet hb.out, hf.out A R AB.out.a, hf.out B R AB.out.b⟩
  clear hf hb AB
  go_wp2_with fail
  go_loopw [8] (fun v wr => ∃ j : Nat, j ≤ len2 ∧ v = .int .i64 j ∧ Hid (W3 w wr A B C R (goes R S2 j) (goes R S2 j))) (fun v _ => len2 - (intOf v).toNat)
  case atStart => exact ⟨0, Nat.zero_le _, rfl, S0.out⟩
  case round =>
    clear S0
    obtain ⟨j, hj, rfl, HW⟩ := hrel
    by_cases hlt : j < len2
    · obtain ⟨b, off, rfl, hb, hc⟩ := (HU2.out.below HW.out.ab.a.bel).at_ (by omega)
      obtain ⟨c0, c1, c2, c3, c4, c5, c6, c7, c8⟩ := hc j hlt
      have hok := HU2.out.bd j hlt
      have ht := HS2.out j hlt
      have hn : goes R S2 (j + 1) = (goes R S2 j).does (S2 j) := rfl
      have NC : Hid (∀ W, Below w.heap.size w W → W.cell? ⟨b, off + j * 9, none⟩ = some (.int .i64 (S2 j).d) ∧ W.cell? ⟨b, off + j * 9 + 1, none⟩ = some (.int .i64 (S2 j).k) ∧ W.cell? ⟨b, off + j * 9 + 2, none⟩ = some (.int .i64 (S2 j).a) ∧ W.cell? ⟨b, off + j * 9 + 3, none⟩ = some (.int .i64 (S2 j).o.k) ∧ W.cell? ⟨b, off + j * 9 + 4, none⟩ = some (.int .i64 (S2 j).o.i) ∧ W.cell? ⟨b, off + j * 9 + 5, none⟩ = some (.int .u32 (S2 j).o.g) ∧ W.cell? ⟨b, off + j * 9 + 6, none⟩ = some (.int .i64 (S2 j).y) ∧ W.cell? ⟨b, off + j * 9 + 7, none⟩ = some (.int .i64 (S2 j).x) ∧ W.cell? ⟨b, off + j * 9 + 8, none⟩ = some (.string (S2 j).t)) := fun W hW => by
        obtain ⟨b', off', e, _, hc'⟩ := (HU2.out.below hW).at_ (by omega)
        cases e
        exact hc' j hlt
      clear hc
      generalize S2 j = s at *
      obtain ⟨d, k, a, ⟨K, I, G⟩, y, x, t⟩ := s
      dsimp only at c0 c1 c2 c3 c4 c5 c6 c7 c8 ht NC
      have DB := Lib.hid (do_s d k a K I G y x t HE.out HW.out.ab.b hok ht)
      have DC : Hid (∀ W, WSt w W C (goes R S2 j) → _) := fun W (hW : WSt w W C (goes R S2 j)) => do_s d k a K I G y x t HE.out hW hok ht
      generalize (goes R S2 j).dK ⟨d, k, a, ⟨K, I, G⟩, y, x, t⟩ = dK at *
      generalize (goes R S2 j).dI ⟨d, k, a, ⟨K, I, G⟩, y, x, t⟩ = dI at *
      generalize (goes R S2 j).dG ⟨d, k, a, ⟨K, I, G⟩, y, x, t⟩ = dG at *
      generalize (goes R S2 j).dB ⟨d, k, a, ⟨K, I, G⟩, y, x, t⟩ = dB at *
      have HN := Lib.hid hn
      clear hok ht hn
      go_wp2_with fail
      refine DB.out.mono ?_
      rintro e v1 ⟨rfl, hS, hT⟩
      have q1 := bel_new v1 (.cells #[.int .i64 dK, .int .i64 dI, .int .u32 dG] 25)
      have W1 := Lib.hid ((HW.out.stepB hS.out hT.out).quiet q1)
      have X1 := Lib.hid (Bk.new v1 25 #[.int .i64 dK, .int .i64 dI, .int .u32 dG])
      clear hS hT q1 DB HW c0 c1 c2 c3 c4 c5 c6 c7 c8
      obtain ⟨c0, c1, c2, c3, c4, c5, c6, c7, c8⟩ := NC.out _ W1.out.ab.a.bel
      go_wp2_with fail
      generalize v1.alloc (.cells #[.int .i64 dK, .int .i64 dI, .int .u32 dG] 25) = v2 at *
      generalize v1.heap.size = g1 at *
      refine (DC.out _ W1.out.ac.b).mono ?_
      rintro e v3 ⟨rfl, hS, hT⟩
      have q1 := bel_new v3 (.cells #[.int .i64 dK, .int .i64 dI, .int .u32 dG] 25)
      have W3' := Lib.hid ((W1.out.stepC hS.out hT.out).quiet q1)
      have X2 := Lib.hid (Bk.new v3 25 #[.int .i64 dK, .int .i64 dI, .int .u32 dG])
      have X1' := Lib.hid ((hT.out.keep W1.out.ac.b.f X1.out).below q1)
      clear hS hT q1 DC W1 X1 c0 c1 c2 c3 c4 c5 c6 c7 c8 NC
      obtain ⟨x0, x1, x2⟩ := LS.cells3 X1'.out
      obtain ⟨y0, y1, y2⟩ := LS.cells3 X2.out
      go_wp2
      go_roundw
      case rel => exact ⟨j + 1, by omega, by go_num, by rw [HN.out]; exact W3'.out⟩
      case measure => simp [intOf]; omega
    · obtain rfl : j = len2 := by omega
      clear hlt hj h40 HU1 HU2 HS2
      generalize goes R S2 j = U at *
      go_wp2_with fail
      refine (MD.out _ HW.out.ab.a.bel).mono ?_
      rintro e v ⟨D, rfl, hS⟩
      have SD := Lib.hid (WSt.after HW.out.ab.a.bel hS.out)
      have HV := Lib.hid (HW.out.quiet hS.out.bel)
      clear hS MD HW
      obtain ⟨UA, hUA⟩ : ∃ l, U.all = l := ⟨_, rfl⟩
      obtain ⟨RA, hRA⟩ : ∃ l, R.all = l := ⟨_, rfl⟩

      go_wp2_with fail
      refine (all_s UA HV.out.ab.b hUA).mono ?_
      rintro e v1 ⟨p1, c1, rfl, hr, hs, hb⟩
      have R1 := Lib.hid hr.out.rd
      have D1 := Lib.hid (hb.out)
      clear hr hs hb
      go_wp2_with fail
      refine (all_s UA (HV.out.ac.b.quiet D1.out) hUA).mono ?_
      rintro e v2 ⟨p2, c2, rfl, hr, hs, hb⟩
      have R2 := Lib.hid hr.out.rd
      have D2 := Lib.hid (bel2 D1.out hb.out)
      have R1 := Lib.hid (R1.out.below hb.out)
      clear hr hs hb
      go_wp2_with fail
      refine (same_yes _ _ _ _ _ _ _ R1.out R2.out).mono ?_
      rintro e v3 ⟨rfl, hb⟩
      have D3 := Lib.hid (bel2 D2.out hb)
      clear hb R1 R2
      go_wp2_with fail
      refine (ledger_s U.B (HV.out.ab.b.quiet D3.out) rfl).mono ?_
      rintro e v4 ⟨b4, k4, rfl, hL, hs, hb⟩
      have D4 := Lib.hid (bel2 D3.out hb.out)
      have L4 := Lib.hid hL.out
      clear hL hs hb
      go_wp2_with fail
      refine (LG.len_ok _ _ _ _ _ L4.out).mono ?_
      rintro e w' ⟨rfl, rfl⟩
      clear L4
      go_wp2_with fail
      refine (ledger_s U.B (HV.out.ac.b.quiet D4.out) rfl).mono ?_
      rintro e v5 ⟨b5, k5, rfl, hL, hs, hb⟩
      have D5 := Lib.hid (bel2 D4.out hb.out)
      have L5 := Lib.hid hL.out
      clear hL hs hb
      go_wp2_with fail
      refine (LG.len_ok _ _ _ _ _ L5.out).mono ?_
      rintro e w' ⟨rfl, rfl⟩
      clear L5
      go_wp2_with fail
      refine (all_s RA (HV.out.ab.a.quiet D5.out) hRA).mono ?_
      rintro e v6 ⟨p6, c6, rfl, hr, hs, hb⟩
      have R6 := Lib.hid hr.out.rd
      have D6 := Lib.hid (bel2 D5.out hb.out)
      clear hr hs hb
      go_wp2_with fail
      refine (all_s RA (SD.out.quiet D6.out) hRA).mono ?_
      rintro e v7 ⟨p7, c7, rfl, hr, hs, hb⟩
      have R7 := Lib.hid hr.out.rd
      have D7 := Lib.hid (bel2 D6.out hb.out)
      have R6 := Lib.hid (R6.out.below hb.out)
      clear hr hs hb
      go_wp2_with fail
      refine (same_yes _ _ _ _ _ _ _ R6.out R7.out).mono ?_
      rintro e v8 ⟨rfl, hb⟩
      have D8 := Lib.hid (bel2 D7.out hb)
      clear hb R6 R7
      go_wp2_with fail
      refine (ledger_s R.B (HV.out.ab.a.quiet D8.out) rfl).mono ?_
      rintro e v9 ⟨b9, k9, rfl, hL, hs, hb⟩
      have D9 := Lib.hid (bel2 D8.out hb.out)
      have L9 := Lib.hid hL.out
      clear hL hs hb
      go_wp2_with fail
      refine (LG.len_ok _ _ _ _ _ L9.out).mono ?_
      rintro e w' ⟨rfl, rfl⟩
      clear L9
      go_wp2_with fail
      refine (ledger_s R.B (SD.out.quiet D9.out) rfl).mono ?_
      rintro e v10 ⟨b10, k10, rfl, hL, hs, hb⟩
      have D10 := Lib.hid (bel2 D9.out hb.out)
      have L10 := Lib.hid hL.out
      clear hL hs hb
      go_wp2_with fail
      refine (LG.len_ok _ _ _ _ _ L10.out).mono ?_
      rintro e w' ⟨rfl, rfl⟩
      clear L10
      go_wp2_with fail
      refine (now_s R.T ((HV.out.ab.a.quiet D10.out)) rfl).mono ?_
      rintro e w' ⟨rfl, rfl⟩
      go_wp2_with fail
      refine (now_s R.T ((SD.out.quiet D10.out)) rfl).mono ?_
      rintro e w' ⟨rfl, rfl⟩
      have B6 := Lib.hid (bel2 HV.out.ab.a.bel D10.out)
      go_wp2_with fail
      refine (works_ok _ (HE.out.below B6.out)).mono ?_
      rintro e v11 ⟨rfl, hb⟩
      have B7 := Lib.hid (bel2 B6.out hb)
      clear hb
      go_wp2
      go_ret
      exact ⟨rfl, B7.out⟩
set_option maxRecDepth 100000 in
set_option maxHeartbeats 2000000 in
theorem oCop_walk (a1 : Option Addr) (len1 cap1 : Nat) (S1 : Nat → Sp) (a2 : Option Addr) (len2 cap2 : Nat) (S2 : Nat → Sp) (w : World) (hl1 : len1 ≤ cap1) (hm1 : cap1 ≤ 9223372036854775807) (hu1 : Sps w a1 len1 S1) (hl2 : len2 ≤ cap2) (hm2 : cap2 ≤ 9223372036854775807) (hu2 : Sps w a2 len2 S2) (he : OEnv w) :
    Calls Tryz.prog 10 #[.slice a1 len1 cap1, .slice a2 len2 cap2] w fun e w' => e = .returned (.bool true) ∧ Below w.heap.size w w' := by
  by_cases hs1 : Short len1 S1 80
  · by_cases hs2 : Short len2 S2 40
    · exact cop_main a1 len1 cap1 S1 a2 len2 cap2 S2 w hl1 hm1 hu1 hl2 hm2 hu2 he hs1 hs2
    · have SH1 := Lib.hid (short_yes a1 len1 cap1 80 S1 w hl1 hm1 (by decide) hu1 hs1)
      have SH2 : Hid (∀ W, Below w.heap.size w W → Calls Tryz.prog 12 #[.slice a2 len2 cap2, .int .i64 40] W fun e w' => e = .returned (.bool false) ∧ Below W.heap.size W w') := fun W hW => short_no a2 len2 cap2 40 S2 W hl2 hm2 (by decide) (hu2.below hW) hs2
      have HE := Lib.hid he
      clear he hu1 hu2 hs1 hs2
      go_enter Tryz.func10, Tryz.ntmps10
      go_wp2_with fail
      refine SH1.out.mono ?_
      rintro e w1 ⟨rfl, b1⟩
      have B1 := Lib.hid b1
      clear b1 SH1
      go_wp2_with fail
      refine (SH2.out _ B1.out).mono ?_
      rintro e w2 ⟨rfl, b2⟩
      have B2 := Lib.hid (bel2 B1.out b2)
      clear b2 SH2 B1
      go_wp2_with fail
      refine (works_ok _ (HE.out.below B2.out)).mono ?_
      rintro e v ⟨rfl, hb⟩
      have B7 := Lib.hid (bel2 B2.out hb)
      clear hb
      go_wp2
      go_ret
      exact ⟨rfl, B7.out⟩
  · have SH1 := Lib.hid (short_no a1 len1 cap1 80 S1 w hl1 hm1 (by decide) hu1 hs1)
    have HE := Lib.hid he
    clear he hu1 hu2 hs1
    go_enter Tryz.func10, Tryz.ntmps10
    go_wp2_with fail
    refine SH1.out.mono ?_
    rintro e w1 ⟨rfl, b1⟩
    have B2 := Lib.hid b1
    clear b1 SH1
    go_wp2_with fail
    refine (works_ok _ (HE.out.below B2.out)).mono ?_
    rintro e v ⟨rfl, hb⟩
    have B7 := Lib.hid (bel2 B2.out hb)
    clear hb
    go_wp2
    go_ret
    exact ⟨rfl, B7.out⟩
end Go.Proofs.YtpinmiplefidpaaGreatDoor
