/- The walk of OuterKnown: the chapter's examples, the limits, errors in their order. -/
import Derived.Test.YtpinmiplefidpaaGreatDoorOx
namespace Go.Proofs.YtpinmiplefidpaaGreatDoor
open Go.RowKit

def K0 : Wd := wfresh 1
def K1 : Wd := K0.acq 3 10
def K2 : Wd := K1.tick 9
def K3 : Wd := K2.ren 3 0 1 5
def K4 : Wd := K3.tick 5
def K5 : Wd := K4.ren 3 0 1 5
def K6 : Wd := K5.tick 0
def K7 : Wd := K6.tick 1048577
def K8 : Wd := K7.said [120]
def K9 : Wd := K8.acq 0 1
def K10 : Wd := K9.acq 1 65536
def K11 : Wd := K10.acq 2 65537
def K12 : Wd := K11.acq 3 0
def K13 : Wd := K12.said (List.replicate 17 111 ++ [108])
def KB : Nat → Wd
  | 0 => K13
  | n + 1 => (KB n).acq 2 65536
def K14 : Wd := (KB 16).acq 2 1
def K15 : Wd := K14.acq 1 0
def K16 : Wd := K15.acq 1 0
theorem k1 : K0.aE 3 10 = 0 ∧ K0.aK 3 10 = 3 ∧ K0.aI 3 10 = 0 ∧ K0.aG 3 10 = 1 := by decide +kernel
theorem k2 : K1.tE 9 = 0 := by decide +kernel
theorem k3 : K2.nE 3 0 1 5 = 0 := by decide +kernel
theorem k3u : K3.til 3 0 1 = 14 ∧ K3.uE 3 0 1 = 0 := by decide +kernel
theorem k4 : K3.tE 5 = 0 := by decide +kernel
theorem k5 : K4.nE 3 0 1 5 = 8 := by decide +kernel
theorem k6 : K5.tE 0 = 2 := by decide +kernel
theorem k7 : K6.tE 1048577 = 2 := by decide +kernel
theorem k8 : K7.sE [120] = 9 := by decide +kernel
theorem k9 : K8.aE 0 1 = 2 ∧ K8.aK 0 1 = 0 ∧ K8.aI 0 1 = 0 ∧ K8.aG 0 1 = 0 := by decide +kernel
theorem k10 : K9.aE 1 65536 = 2 ∧ K9.aK 1 65536 = 0 ∧ K9.aI 1 65536 = 0 ∧ K9.aG 1 65536 = 0 := by decide +kernel
theorem k11 : K10.aE 2 65537 = 2 ∧ K10.aK 2 65537 = 0 ∧ K10.aI 2 65537 = 0 ∧ K10.aG 2 65537 = 0 := by decide +kernel
theorem k12 : K11.aE 3 0 = 2 ∧ K11.aK 3 0 = 0 ∧ K11.aI 3 0 = 0 ∧ K11.aG 3 0 = 0 := by decide +kernel
theorem k13 : K12.sE (List.replicate 17 111 ++ [108]) = 0 := by decide +kernel
theorem kTx : (⟨(List.replicate 17 (111 : UInt8) ++ [108]).toArray⟩ : ByteArray).data.toList = List.replicate 17 111 ++ [108] := rfl
theorem kT0 : (⟨(List.replicate 17 (111 : UInt8) ++ [108]).toArray⟩ : ByteArray).size ≤ 140737488351232 := by decide
theorem kT1 : K12.sE (⟨(List.replicate 17 (111 : UInt8) ++ [108]).toArray⟩ : ByteArray).data.toList = 0 := by rw [kTx]; exact k13
theorem kT2 : K12.said (⟨(List.replicate 17 (111 : UInt8) ++ [108]).toArray⟩ : ByteArray).data.toList = KB 0 := by rw [kTx]; rfl
theorem kB : ∀ n, n < 16 → (KB n).aE 2 65536 = 0 ∧ (KB n).aK 2 65536 = 2 ∧ (KB n).aI 2 65536 = n ∧ (KB n).aG 2 65536 = 1 := by decide +kernel
theorem k14 : (KB 16).aE 2 1 = 4 ∧ (KB 16).aK 2 1 = 0 ∧ (KB 16).aI 2 1 = 0 ∧ (KB 16).aG 2 1 = 0 := by decide +kernel
theorem k15 : K14.aE 1 0 = 0 ∧ K14.aK 1 0 = 1 ∧ K14.aI 1 0 = 0 ∧ K14.aG 1 0 = 1 := by decide +kernel
theorem k16 : K15.aE 1 0 = 15 ∧ K15.aK 1 0 = 0 ∧ K15.aI 1 0 = 0 ∧ K15.aG 1 0 = 0 := by decide +kernel
theorem k17 : K16.all.length = 18 := by decide +kernel

set_option maxRecDepth 100000 in
set_option maxHeartbeats 8000000 in
theorem oKno_walk (w : World) (he : OEnv w) :
    Calls Tryz.prog 11 #[] w fun e w' => e = .returned (.bool true) ∧ Below w.heap.size w w' := by
  have HE := Lib.hid he
  clear he
  go_enter Tryz.func11, Tryz.ntmps11
  go_wp2_with fail
  refine (wnew_ok 1 w (by omega) (by omega)).mono ?_
  rintro e w0 ⟨A, rfl, hS0⟩
  have S0 : Hid (WSt w w0 A K0) := hS0
  clear hS0
  unfold ptr
  go_wp2_with fail
  refine (wnew_bad 0 w0 rfl).mono ?_
  rintro e w' ⟨rfl, rfl⟩
  go_wp2_with fail
  refine (acq_s 3 10 3 0 1 0 S0.out ⟨by decide, by decide⟩ k1.2.1 k1.2.2.1 k1.2.2.2 k1.1).mono ?_
  rintro e w1 ⟨rfl, hS, hT⟩
  have b := bel_new w1 (.cells #[.int .i64 3, .int .i64 0, .int .u32 1] 25)
  have B1 := Lib.hid (Bk.new w1 25 #[.int .i64 3, .int .i64 0, .int .u32 1])
  have S1 : Hid (WSt w (w1.alloc (.cells #[.int .i64 3, .int .i64 0, .int .u32 1] 25)) A K1) := hS.out.quiet b
  clear hS hT b S0
  obtain ⟨x0, x1, x2⟩ := LS.cells3 B1.out
  go_wp2_with fail
  generalize w1.alloc (.cells #[.int .i64 3, .int .i64 0, .int .u32 1] 25) = v1 at *
  generalize w1.heap.size = R at *

  refine (tick_s 9 0 S1.out k2).mono ?_
  rintro e v2 ⟨rfl, hS, hT⟩
  have S2 := Lib.hid (show WSt w v2 A K2 from hS.out)
  have B2 := Lib.hid (hT.out.keep S1.out.f B1.out)
  clear hS hT x0 x1 x2 B1 S1
  obtain ⟨x0, x1, x2⟩ := LS.cells3 B2.out
  go_wp2_with fail
  refine (ren_s 3 0 1 5 0 S2.out ⟨by decide, by decide, by decide, by decide, by decide, by decide⟩ k3).mono ?_
  rintro e v3 ⟨rfl, hS, hT⟩
  have S3 := Lib.hid (show WSt w v3 A K3 from hS.out)
  have B3 := Lib.hid (hT.out.keep S2.out.f B2.out)
  clear hS hT x0 x1 x2 B2 S2
  obtain ⟨x0, x1, x2⟩ := LS.cells3 B3.out
  go_wp2_with fail
  refine (until_s 3 0 1 14 0 S3.out ⟨by decide, by decide, by decide, by decide, by decide, by decide⟩ k3u.1 k3u.2).mono ?_
  rintro e vu ⟨rfl, hS, hb⟩
  have B3 := Lib.hid (B3.out.below hb.out)
  have S3 := Lib.hid hS.out
  clear hS hb x0 x1 x2
  obtain ⟨x0, x1, x2⟩ := LS.cells3 B3.out
  go_wp2_with fail
  refine (tick_s 5 0 S3.out k4).mono ?_
  rintro e v4 ⟨rfl, hS, hT⟩
  have S4 := Lib.hid (show WSt w v4 A K4 from hS.out)
  have B4 := Lib.hid (hT.out.keep S3.out.f B3.out)
  clear hS hT x0 x1 x2 B3 S3
  obtain ⟨x0, x1, x2⟩ := LS.cells3 B4.out
  go_wp2_with fail
  refine (ren_s 3 0 1 5 8 S4.out ⟨by decide, by decide, by decide, by decide, by decide, by decide⟩ k5).mono ?_
  rintro e v5 ⟨rfl, hS, hT⟩
  have S5 := Lib.hid (show WSt w v5 A K5 from hS.out)
  have B5 := Lib.hid (hT.out.keep S4.out.f B4.out)
  clear hS hT x0 x1 x2 B4 S4
  obtain ⟨x0, x1, x2⟩ := LS.cells3 B5.out
  go_wp2_with fail
  refine (tick_s 0 2 S5.out k6).mono ?_
  rintro e v6 ⟨rfl, hS, hT⟩
  have S6 := Lib.hid (show WSt w v6 A K6 from hS.out)
  have B6 := Lib.hid (hT.out.keep S5.out.f B5.out)
  clear hS hT x0 x1 x2 B5 S5
  obtain ⟨x0, x1, x2⟩ := LS.cells3 B6.out
  go_wp2_with fail
  refine (tick_s 1048577 2 S6.out k7).mono ?_
  rintro e v7 ⟨rfl, hS, hT⟩
  have S7 := Lib.hid (show WSt w v7 A K7 from hS.out)
  have B7 := Lib.hid (hT.out.keep S6.out.f B6.out)
  clear hS hT x0 x1 x2 B6 S6
  obtain ⟨x0, x1, x2⟩ := LS.cells3 B7.out
  go_wp2_with fail
  refine (answer_s ⟨#[120]⟩ 9 HE.out S7.out (by decide) k8).mono ?_
  rintro e v8 ⟨rfl, hS, hT⟩
  have S8 := Lib.hid (show WSt w v8 A K8 from hS.out)
  have B8 := Lib.hid (hT.out.keep S7.out.f B7.out)
  clear hS hT x0 x1 x2 B7 S7
  obtain ⟨x0, x1, x2⟩ := LS.cells3 B8.out
  go_wp2_with fail
  clear x0 x1 x2 B8
  refine (acq_s 0 1 0 0 0 2 S8.out ⟨by decide, by decide⟩ k9.2.1 k9.2.2.1 k9.2.2.2 k9.1).mono ?_
  rintro e w1 ⟨rfl, hS, hT⟩
  have S9 : Hid (WSt w (w1.alloc (.cells #[.int .i64 0, .int .i64 0, .int .u32 0] 25)) A K9) := hS.out.quiet (bel_new w1 _)
  clear hS hT S8
  go_wp2_with fail
  generalize w1.alloc (.cells #[.int .i64 0, .int .i64 0, .int .u32 0] 25) = v9 at *
  generalize w1.heap.size = R9 at *
  clear w1
  refine (acq_s 1 65536 0 0 0 2 S9.out ⟨by decide, by decide⟩ k10.2.1 k10.2.2.1 k10.2.2.2 k10.1).mono ?_
  rintro e w1 ⟨rfl, hS, hT⟩
  have S10 : Hid (WSt w (w1.alloc (.cells #[.int .i64 0, .int .i64 0, .int .u32 0] 25)) A K10) := hS.out.quiet (bel_new w1 _)
  clear hS hT S9
  go_wp2_with fail
  generalize w1.alloc (.cells #[.int .i64 0, .int .i64 0, .int .u32 0] 25) = v10 at *
  generalize w1.heap.size = R10 at *
  clear w1
  refine (acq_s 2 65537 0 0 0 2 S10.out ⟨by decide, by decide⟩ k11.2.1 k11.2.2.1 k11.2.2.2 k11.1).mono ?_
  rintro e w1 ⟨rfl, hS, hT⟩
  have S11 : Hid (WSt w (w1.alloc (.cells #[.int .i64 0, .int .i64 0, .int .u32 0] 25)) A K11) := hS.out.quiet (bel_new w1 _)
  clear hS hT S10
  go_wp2_with fail
  generalize w1.alloc (.cells #[.int .i64 0, .int .i64 0, .int .u32 0] 25) = v11 at *
  generalize w1.heap.size = R11 at *
  clear w1
  refine (acq_s 3 0 0 0 0 2 S11.out ⟨by decide, by decide⟩ k12.2.1 k12.2.2.1 k12.2.2.2 k12.1).mono ?_
  rintro e w1 ⟨rfl, hS, hT⟩
  have S12 : Hid (WSt w (w1.alloc (.cells #[.int .i64 0, .int .i64 0, .int .u32 0] 25)) A K12) := hS.out.quiet (bel_new w1 _)
  clear hS hT S11
  go_upto_region 17 with fail
  generalize w1.alloc (.cells #[.int .i64 0, .int .i64 0, .int .u32 0] 25) = v12 at *
  generalize w1.heap.size = R12 at *
  clear w1
  go_loopw [17, 18] (fun u v wr => ∃ j : Nat, j ≤ 17 ∧ u = .string ⟨(List.replicate j (111 : UInt8) ++ [108]).toArray⟩ ∧ v = .int .i64 j ∧ wr = v12) (fun _ v _ => 17 - (intOf v).toNat)
  case atStart => exact ⟨0, Nat.zero_le _, rfl, rfl, rfl⟩
  case round =>
    obtain ⟨j, hj, rfl, rfl, rfl⟩ := hrel
    by_cases hlt : j < 17
    · go_wp2
      go_roundw
      case rel => exact ⟨j + 1, by omega, rfl, by go_num, trivial⟩
      case measure => simp [intOf]; omega
    · obtain rfl : j = 17 := by omega
      clear hj hlt
      have AS := Lib.hid (answer_s _ 0 HE.out S12.out kT0 kT1)
      rw [kT2] at AS
      generalize (⟨(List.replicate 17 (111 : UInt8) ++ [108]).toArray⟩ : ByteArray) = text at *
      unfold ptr at AS
      go_wp2_with fail
      refine AS.out.mono ?_
      rintro e v13 ⟨rfl, hS, hT⟩
      have S13 : Hid (WSt w v13 A (KB 0)) := hS.out
      clear hS hT S12
      go_upto_region 23 with fail
      go_loopw [19] (fun v wr => ∃ j : Nat, j ≤ 16 ∧ v = .int .i64 j ∧ Hid (WSt w wr A (KB j))) (fun v _ => 16 - (intOf v).toNat)
      case atStart => exact ⟨0, Nat.zero_le _, rfl, S13.out⟩
      case round =>
        clear S13
        obtain ⟨j, hj, rfl, HS⟩ := hrel
        by_cases hlt : j < 16
        · obtain ⟨z0, z1, z2, z3⟩ := kB j hlt
          have AQ := Lib.hid (acq_s 2 65536 2 j 1 0 HS.out ⟨by decide, by decide⟩ z1 z2 z3 z0)
          clear z0 z1 z2 z3
          go_wp2_with fail
          refine AQ.out.mono ?_
          rintro e w1 ⟨rfl, hS, hT⟩
          have S1 : Hid (WSt w (w1.alloc (.cells #[.int .i64 2, .int .i64 j, .int .u32 1] 25)) A (KB (j + 1))) := hS.out.quiet (bel_new w1 _)
          have c1 : (w1.alloc (.cells #[.int .i64 2, .int .i64 j, .int .u32 1] 25)).cell? ⟨w1.heap.size, 1, none⟩ = some (.int .i64 j) := (Bk.new w1 25 #[.int .i64 2, .int .i64 j, .int .u32 1]).cell 1
          clear hS hT AQ HS
          go_wp2
          go_roundw
          case rel => exact ⟨j + 1, by omega, by go_num, S1.out⟩
          case measure => simp [intOf]; omega
        · obtain rfl : j = 16 := by omega
          clear hj hlt
          have S13 := HS
          clear HS
          go_wp2_with fail

          refine (acq_s 2 1 0 0 0 4 S13.out ⟨by decide, by decide⟩ k14.2.1 k14.2.2.1 k14.2.2.2 k14.1).mono ?_
          rintro e w1 ⟨rfl, hS, hT⟩
          have S14 : Hid (WSt w (w1.alloc (.cells #[.int .i64 0, .int .i64 0, .int .u32 0] 25)) A K14) := hS.out.quiet (bel_new w1 _)
          clear hS hT S13
          go_wp2_with fail
          generalize w1.alloc (.cells #[.int .i64 0, .int .i64 0, .int .u32 0] 25) = v14 at *
          generalize w1.heap.size = R14 at *
          clear w1
          refine (acq_s 1 0 1 0 1 0 S14.out ⟨by decide, by decide⟩ k15.2.1 k15.2.2.1 k15.2.2.2 k15.1).mono ?_
          rintro e w1 ⟨rfl, hS, hT⟩
          have S15 : Hid (WSt w (w1.alloc (.cells #[.int .i64 1, .int .i64 0, .int .u32 1] 25)) A K15) := hS.out.quiet (bel_new w1 _)
          clear hS hT S14
          go_wp2_with fail
          generalize w1.alloc (.cells #[.int .i64 1, .int .i64 0, .int .u32 1] 25) = v15 at *
          generalize w1.heap.size = R15 at *
          clear w1
          refine (acq_s 1 0 0 0 0 15 S15.out ⟨by decide, by decide⟩ k16.2.1 k16.2.2.1 k16.2.2.2 k16.1).mono ?_
          rintro e w1 ⟨rfl, hS, hT⟩
          have S16 : Hid (WSt w (w1.alloc (.cells #[.int .i64 0, .int .i64 0, .int .u32 0] 25)) A K16) := hS.out.quiet (bel_new w1 _)
          clear hS hT S15
          go_wp2_with fail
          generalize w1.alloc (.cells #[.int .i64 0, .int .i64 0, .int .u32 0] 25) = v16 at *
          generalize w1.heap.size = R16 at *
          clear w1
          refine (all_s K16.all S16.out rfl).mono ?_
          rw [k17]
          rintro e w2 ⟨p, c, rfl, hR, hS, hb⟩
          have S17 := Lib.hid hS.out
          clear hR hS hb S16
          go_wp2_with (go_at_call 13; refine (works_ok _ (HE.out.below S17.out.bel)).mono ?_; rintro e w5 ⟨rfl, hb5⟩; have B6 := Lib.hid (bel2 S17.out.bel hb5); clear hb5)
          go_ret
          exact ⟨rfl, B6.out⟩
end Go.Proofs.YtpinmiplefidpaaGreatDoor
