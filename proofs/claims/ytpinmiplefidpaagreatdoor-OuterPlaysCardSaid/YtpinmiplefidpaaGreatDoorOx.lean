/- Until of a world that is nil or was not made by New. -/
import Derived.Test.YtpinmiplefidpaaGreatDoorOv
namespace Go.Proofs.YtpinmiplefidpaaGreatDoor
open Go.RowKit

set_option maxRecDepth 100000 in
set_option maxHeartbeats 1000000 in
theorem wuntil_no (p : Option Addr) (k i g : Int) (w : World) (h : WInv w p) :
    Calls Tryz.prog 28 #[.pointer p, .agg #[.int .i64 k, .int .i64 i, .int .u32 g]] w fun e w' => e = .returned (.tuple #[.int .i64 0, .int .i64 1]) ∧ Below w.heap.size w w' := by
  have B0 := bel_new w (.cells #[.int .i64 k, .int .i64 i, .int .u32 g] 25)
  have HB0 := Lib.hid B0
  have n0 := Bk.new w 25 #[.int .i64 k, .int .i64 i, .int .u32 g]
  have H := Lib.hid (h.below B0)
  obtain ⟨o0, o1, o2⟩ := LS.cells3 n0
  clear h B0 n0
  generalize hw1 : w.alloc (.cells #[.int .i64 k, .int .i64 i, .int .u32 g] 25) = w1 at *
  have HC := Lib.hid (hold_no p k i g true w1 H.out)
  go_enter Tryz.func28, Tryz.ntmps28
  go_wp2_with fail
  refine HC.out.mono ?_
  rintro e w2 ⟨rfl, hb2⟩
  have HB2 := Lib.hid (bel2 HB0.out hb2)
  clear hb2 o0 o1 o2
  go_wp2
  refine bodyPost_ret (v := .tuple #[.int .i64 0, .int .i64 1]) (by simp [results, Tryz.results28, go_sem]) rfl ⟨rfl, bel2 HB2.out (bel_new _ _)⟩
end Go.Proofs.YtpinmiplefidpaaGreatDoor
