/- The examples of the chapter: works. -/
import Derived.Test.YtpinmiplefidpaaGreatDoorOt
import Derived.Deep.RegionHeld3
namespace Go.Proofs.YtpinmiplefidpaaGreatDoor
open Go.RowKit

set_option maxRecDepth 100000 in
set_option maxHeartbeats 4000000 in
theorem works_ok (w : World) (he : OEnv w) : Calls Tryz.prog 13 #[] w fun e w' => e = .returned (.bool true) ∧ Below w.heap.size w w' := by
  have HE := Lib.hid he
  clear he
  go_enter Tryz.func13, Tryz.ntmps13
  go_wp2_with fail
  refine (wnew_ok 1 w (by omega) (by omega)).mono ?_
  rintro e w0 ⟨A, rfl, hS0⟩
  have S0 : Hid (WSt w w0 A X0) := hS0
  clear hS0
  unfold ptr
  go_wp2_with fail
  refine (answer_s ⟨#[108, 111, 111, 102, 111]⟩ 0 HE.out S0.out (by decide) x1).mono ?_
  rintro e w1 ⟨rfl, hS, hT⟩
  have S1 : Hid (WSt w w1 A X1) := hS.out
  clear hS hT
  go_wp2_with fail
  refine (acq_s 1 5 0 0 0 15 S1.out ⟨by decide, by decide⟩ x2.2.1 x2.2.2.1 x2.2.2.2 x2.1).mono ?_
  rintro e w2 ⟨rfl, hS, hT⟩
  have b2 := bel_new w2 (.cells #[.int .i64 0, .int .i64 0, .int .u32 0] 25)
  have B2 := Lib.hid (Bk.new w2 25 #[.int .i64 0, .int .i64 0, .int .u32 0])
  have S2 : Hid (WSt w (w2.alloc (.cells #[.int .i64 0, .int .i64 0, .int .u32 0] 25)) A X2) := hS.out.quiet b2
  clear hS hT b2
  go_wp2_with fail
  generalize w2.alloc (.cells #[.int .i64 0, .int .i64 0, .int .u32 0] 25) = v2 at *
  refine (acq_s 1 5 1 0 1 0 S2.out ⟨by decide, by decide⟩ x3.2.1 x3.2.2.1 x3.2.2.2 x3.1).mono ?_
  rintro e w3 ⟨rfl, hS, hT⟩
  have b3 := bel_new w3 (.cells #[.int .i64 1, .int .i64 0, .int .u32 1] 25)
  have B3 := Lib.hid (Bk.new w3 25 #[.int .i64 1, .int .i64 0, .int .u32 1])
  have S3 : Hid (WSt w (w3.alloc (.cells #[.int .i64 1, .int .i64 0, .int .u32 1] 25)) A X3) := hS.out.quiet b3
  clear hS hT b3
  go_wp2_with fail
  generalize w3.alloc (.cells #[.int .i64 1, .int .i64 0, .int .u32 1] 25) = v3 at *
  refine (acq_s 2 100 2 0 1 0 S3.out ⟨by decide, by decide⟩ x4.2.1 x4.2.2.1 x4.2.2.2 x4.1).mono ?_
  rintro e w4 ⟨rfl, hS, hT⟩
  have b4 := bel_new w4 (.cells #[.int .i64 2, .int .i64 0, .int .u32 1] 25)
  have B4 := Lib.hid (Bk.new w4 25 #[.int .i64 2, .int .i64 0, .int .u32 1])
  have S4 : Hid (WSt w (w4.alloc (.cells #[.int .i64 2, .int .i64 0, .int .u32 1] 25)) A X4) := hS.out.quiet b4
  have B3 := Lib.hid ((B3.out.kept hT.out.k (S3.out.f.off B3.out)).below b4)
  clear hS hT b4
  go_wp2_with fail
  generalize w4.alloc (.cells #[.int .i64 2, .int .i64 0, .int .u32 1] 25) = v4 at *
  have D4 := Lib.hid (bel_drew (Below.refl v4.heap.size v4))
  have S4d : Hid (WSt w v4.drew A X4) := S4.out.quiet D4.out
  have N3 := Lib.hid (B3.out.below D4.out)
  have N4 := Lib.hid (B4.out.below D4.out)
  obtain ⟨x0, x1, x2⟩ := LS.cells3 N3.out
  obtain ⟨y0, _, _⟩ := LS.cells3 N4.out
  clear S0 S1 S2 S3 B2
  go_region_held3 (fun W => W.cell? ⟨w3.heap.size, 0, none⟩ = some (.int .i64 1) ∧ W.cell? ⟨w3.heap.size, 1, none⟩ = some (.int .i64 0) ∧ W.cell? ⟨w3.heap.size, 2, none⟩ = some (.int .u32 1) ∧ W.cell? ⟨w4.heap.size, 0, none⟩ = some (.int .i64 2)) (first | (with_reducible exact hz6) | (with_reducible exact hz5) | exact ⟨x0, x1, x2, y0⟩) (first
    | (go_at_call 49; refine (lfile_ok 0 1 _).mono ?_; rintro e w5 ⟨rfl, hb5⟩; have S5 := Lib.hid (S4d.out.quiet hb5); have M3 := Lib.hid (N3.out.below hb5); have M4 := Lib.hid (N4.out.below hb5); have hz5 := And.intro (LS.cells3 M3.out).1 (And.intro (LS.cells3 M3.out).2.1 (And.intro (LS.cells3 M3.out).2.2 (LS.cells3 M4.out).1)); clear hb5)
    | (go_at_call 22; refine (tick_s 7 0 S5.out x5).mono ?_; rintro e w6 ⟨rfl, hS, hT⟩; have S6 := Lib.hid (show WSt w w6 A X5 from hS.out); have P3 := Lib.hid (hT.out.keep S5.out.f M3.out); have P4 := Lib.hid (hT.out.keep S5.out.f M4.out); have hz6 := And.intro (LS.cells3 P3.out).1 (And.intro (LS.cells3 P3.out).2.1 (And.intro (LS.cells3 P3.out).2.2 (LS.cells3 P4.out).1)); clear hS hT))
  all_goals
    clear x0 x1 x2 y0 hz5
    obtain ⟨x0, x1, x2, _⟩ := hz6
    go_wp2_with fail
    refine (rel_s 1 0 1 1 3 0 HE.out S6.out ⟨by decide, by decide, by decide, by decide, by decide, by decide⟩ ⟨by decide, by decide⟩ x6.2 x6.1).mono ?_
    rintro e w7 ⟨rfl, hS, hT⟩
    have S7 := Lib.hid (show WSt w w7 A X6 from hS.out)
    have Q3 := Lib.hid (hT.out.keep S6.out.f P3.out)
    clear x0 x1 x2 hS hT
    obtain ⟨x0, x1, x2⟩ := LS.cells3 Q3.out
    go_wp2_with fail
    refine (rel_s 1 0 1 1 1 0 HE.out S7.out ⟨by decide, by decide, by decide, by decide, by decide, by decide⟩ ⟨by decide, by decide⟩ x7.2 x7.1).mono ?_
    rintro e w8 ⟨rfl, hS, hT⟩
    have S8 := Lib.hid (show WSt w w8 A X7 from hS.out)
    have R3 := Lib.hid (hT.out.keep S7.out.f Q3.out)
    clear x0 x1 x2 hS hT
    obtain ⟨x0, x1, x2⟩ := LS.cells3 R3.out
    go_wp2_with fail
    refine (rel_s 1 0 1 1 0 5 HE.out S8.out ⟨by decide, by decide, by decide, by decide, by decide, by decide⟩ ⟨by decide, by decide⟩ x8.2 x8.1).mono ?_
    rintro e w9 ⟨rfl, hS, hT⟩
    have S9 := Lib.hid (show WSt w w9 A X8 from hS.out)
    clear x0 x1 x2 hS hT
    go_wp2_with fail
    refine (acq_s 1 5 1 0 2 0 S9.out ⟨by decide, by decide⟩ x9.2.1 x9.2.2.1 x9.2.2.2 x9.1).mono ?_
    rintro e wa ⟨rfl, hS, hT⟩
    have b := bel_new wa (.cells #[.int .i64 1, .int .i64 0, .int .u32 2] 25)
    have BA := Lib.hid (Bk.new wa 25 #[.int .i64 1, .int .i64 0, .int .u32 2])
    have SA : Hid (WSt w (wa.alloc (.cells #[.int .i64 1, .int .i64 0, .int .u32 2] 25)) A X9) := hS.out.quiet b
    clear hS hT b
    go_wp2_with fail
    generalize wa.alloc (.cells #[.int .i64 1, .int .i64 0, .int .u32 2] 25) = va at *
    have DA := Lib.hid (bel_drew (Below.refl va.heap.size va))
    have SD := Lib.hid (SA.out.quiet DA.out)
    have ND := Lib.hid (BA.out.below DA.out)
    have z0 := LS.cells3 ND.out
    go_region_held3 (fun W => W.cell? ⟨wa.heap.size, 0, none⟩ = some (.int .i64 1) ∧ W.cell? ⟨wa.heap.size, 1, none⟩ = some (.int .i64 0) ∧ W.cell? ⟨wa.heap.size, 2, none⟩ = some (.int .u32 2)) (first | (with_reducible exact hz8) | (with_reducible exact hz7) | exact z0) (first
      | (go_at_call 49; refine (lfile_ok 0 2 _).mono ?_; rintro e wb ⟨rfl, hb⟩; have SB := Lib.hid (SD.out.quiet hb); have NB := Lib.hid (ND.out.below hb); have hz7 := LS.cells3 NB.out; clear hb)
      | (go_at_call 37; refine (ledger_s X9.B SB.out rfl).mono ?_; rintro e wc ⟨b, bk, rfl, hL, hS, hb⟩; have SC := Lib.hid hS.out; have LC := Lib.hid hL.out; have hz8 := LS.cells3 (NB.out.below hb.out); clear hS hL hb)
      | (go_at_call 45; refine (LG.len_ok _ _ _ X9.B _ LC.out).mono ?_; rw [x10.1]; rintro e w' ⟨rfl, rfl⟩)
      | (go_at_call 32; refine (now_s 7 SC.out x10.2).mono ?_; rintro e w' ⟨rfl, rfl⟩))
    all_goals
      go_wp2
      go_ret
      exact ⟨rfl, SC.out.bel⟩
end Go.Proofs.YtpinmiplefidpaaGreatDoor
