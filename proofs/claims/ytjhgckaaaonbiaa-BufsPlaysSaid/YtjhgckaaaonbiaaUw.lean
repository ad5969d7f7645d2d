/- The examples of the chapter hold: works returns true. -/
import Derived.Test.YtjhgckaaaonbiaaUv
namespace Go.Proofs.Ytjhgckaaaonbiaa
open Go.RowKit

def Q0 : Po := pfresh 2 100 5
def Q1 : Po := Q0.pin 60
def Q2 : Po := Q1.pin 50
def Q3 : Po := Q2.pin 40
def Q4 : Po := Q3.unpin 2 0 5
def Q5 : Po := Q4.unpin 2 0 5
def Q6 : Po := Q5.pin 10

set_option maxHeartbeats 4000000 in
set_option maxRecDepth 100000 in
theorem works_ok (w : World) : Calls Try.prog 10 #[] w fun e w' => e = .returned (.bool true) ∧ Below w.heap.size w w' := by
  go_enter Try.func10, Try.ntmps10
  go_wp2_with fail
  refine (pnew_ok 2 100 5 _ (by decide) (by decide) (by decide) (by decide) (by decide) (by decide)).mono ?_
  rintro e w1 ⟨b, rfl, hf⟩
  obtain ⟨s, k, hs⟩ := PSt.new hf
  have S : Hid (PSt w w1 b s k Q0) := hs
  clear hf hs
  go_wp2_with fail
  refine (pin_s 60 2 0 5 0 S.out rfl rfl rfl rfl).mono ?_
  rintro e w2 ⟨rfl, S1, K1⟩
  have S2 : Hid (PSt w (w2.alloc (.cells #[.int .i64 2, .int .i64 0, .int .u32 5] 34)) b s k Q1) := S1.out.quiet ((Below.refl _ _).alloc (Nat.le_refl _) _)
  have OA := Lib.hid (Bk.new w2 34 #[.int .i64 2, .int .i64 0, .int .u32 5])
  clear S S1 K1
  have S := S2
  clear S2
  go_wp2_with fail
  generalize w2.heap.size = A at *
  generalize w2.alloc (.cells #[.int .i64 2, .int .i64 0, .int .u32 5] 34) = w3 at *
  refine (pin_s 50 0 0 0 4 S.out rfl rfl rfl rfl).mono ?_
  rintro e w4 ⟨rfl, S1, K1⟩
  have S2 : Hid (PSt w (w4.alloc (.cells #[.int .i64 0, .int .i64 0, .int .u32 0] 34)) b s k Q2) := S1.out.quiet ((Below.refl _ _).alloc (Nat.le_refl _) _)
  have PA := Lib.hid ((S.out.box OA.out K1.out).up (.cells #[.int .i64 0, .int .i64 0, .int .u32 0] 34))
  clear S S1 K1 OA
  have S := S2
  have OA := PA
  clear S2 PA
  go_wp2_with fail
  generalize w4.heap.size = B at *
  generalize w4.alloc (.cells #[.int .i64 0, .int .i64 0, .int .u32 0] 34) = w5 at *
  refine (pin_s 40 2 1 5 0 S.out rfl rfl rfl rfl).mono ?_
  rintro e w6 ⟨rfl, S1, K1⟩
  have S2 : Hid (PSt w (w6.alloc (.cells #[.int .i64 2, .int .i64 1, .int .u32 5] 34)) b s k Q3) := S1.out.quiet ((Below.refl _ _).alloc (Nat.le_refl _) _)
  have QA := Lib.hid (S.out.box OA.out K1.out)
  have PA := Lib.hid (QA.out.up (.cells #[.int .i64 2, .int .i64 1, .int .u32 5] 34))
  have OC := Lib.hid (Bk.new w6 34 #[.int .i64 2, .int .i64 1, .int .u32 5])
  clear S S1 K1 OA
  have S := S2
  have OA := PA
  clear S2 PA
  obtain ⟨a0, a1, a2, a3⟩ := ob_cells QA.out
  go_wp2_with fail
  clear a0 a1 a2 a3 QA
  generalize w6.heap.size = C at *
  generalize w6.alloc (.cells #[.int .i64 2, .int .i64 1, .int .u32 5] 34) = w7 at *
  refine (bytes_s 2 0 5 60 0 S.out rfl rfl).mono ?_
  rintro e w8 ⟨rfl, S1, B1⟩
  have PA := Lib.hid (OA.out.below B1.out)
  have PC := Lib.hid (OC.out.below B1.out)
  clear S OA OC B1
  go_wp2_with fail
  refine (used_s 100 S1.out rfl).mono ?_
  rintro e w9 ⟨rfl, S2, B1⟩
  have OA := Lib.hid (PA.out.below B1.out)
  have OC := Lib.hid (PC.out.below B1.out)
  clear S1 PA PC B1
  obtain ⟨a0, a1, a2, a3⟩ := ob_cells OA.out
  go_wp2_with fail
  clear a0 a1 a2 a3
  refine (unpin_s 2 0 5 0 S2.out rfl).mono ?_
  rintro e w10 ⟨rfl, S3, K1⟩
  have PA := Lib.hid (S2.out.box OA.out K1.out)
  have PC := Lib.hid (S2.out.box OC.out K1.out)
  clear S2 OA OC K1
  have S : Hid (PSt w w10 b s k Q4) := S3
  clear S3
  obtain ⟨a0, a1, a2, a3⟩ := ob_cells PA.out
  go_wp2_with fail
  clear a0 a1 a2 a3
  refine (unpin_s 2 0 5 7 S.out rfl).mono ?_
  rintro e w11 ⟨rfl, S3, K1⟩
  have OA := Lib.hid (S.out.box PA.out K1.out)
  have OC := Lib.hid (S.out.box PC.out K1.out)
  clear S PA PC K1
  have S : Hid (PSt w w11 b s k Q5) := S3
  clear S3
  go_wp2_with fail
  refine (pin_s 10 2 0 6 0 S.out rfl rfl rfl rfl).mono ?_
  rintro e w12 ⟨rfl, S3, K1⟩
  have PA := Lib.hid (S.out.box OA.out K1.out)
  have PC := Lib.hid (S.out.box OC.out K1.out)
  have HB := Lib.hid S3.out.bel
  clear S S3 OA OC K1
  obtain ⟨a0, a1, a2, a3⟩ := ob_cells PA.out
  obtain ⟨c0, c1, c2, c3⟩ := ob_cells PC.out
  go_wp2
  go_ret
  exact ⟨rfl, bel_alloc HB.out _⟩
end Go.Proofs.Ytjhgckaaaonbiaa
