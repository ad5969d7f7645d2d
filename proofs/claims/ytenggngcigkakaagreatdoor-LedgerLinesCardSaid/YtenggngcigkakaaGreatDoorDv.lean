/- The contracts of the program's Text and OuterText, and of text where the name is not possible. -/
import Derived.Test.YtenggngcigkakaaGreatDoorDt
namespace Go.Proofs.YtenggngcigkakaaGreatDoor
open Go.RowKit

theorem wtext_ok (m : UInt8) (n : Int) (N k p g : Nat) (hn : n = N) (h : Okn N k p g) (hN : N ≤ 256) (w : World) (he : Env w) :
    Calls Tryz.prog 107 #[.agg #[.int .i64 k, .int .i64 p, .int .i64 g], .string ⟨#[m]⟩, .int .i64 n] w fun e w' => e = .returned (.tuple #[.string ⟨(txt m k p g).toArray⟩, .int .i64 0]) ∧ Below w.heap.size w w' := by
  obtain ⟨j, rfl⟩ : ∃ j, k = j + 1 := ⟨k - 1, by have := h.k1; omega⟩
  exact wtext_j m n _ N j p g hn rfl h hN w he

set_option maxHeartbeats 400000 in
theorem wtext_bad (m : UInt8) (n k p g : Int) (hr : Rg k p g) (hn : 0 ≤ n ∧ n ≤ 256) (h : Bad n k p g) (w : World) :
    Calls Tryz.prog 107 #[.agg #[.int .i64 k, .int .i64 p, .int .i64 g], .string ⟨#[m]⟩, .int .i64 n] w fun e w' => e = .returned (.tuple #[.string ⟨#[]⟩, .int .i64 2]) ∧ Below w.heap.size w w' := by
  have HR := Lib.hid hr
  have HH := Lib.hid h
  have HN := Lib.hid hn
  clear h hr hn
  go_enter Tryz.func107, Tryz.ntmps107
  go_wp2_with fail
  refine (chk_bad n k p g HR.out HN.out HH.out _).mono ?_
  rintro e w1 ⟨rfl, hb1⟩
  go_wp2
  go_ret2
  exact ⟨rfl, bel2 ((Below.refl _ _).alloc (Nat.le_refl _) _) hb1⟩

set_option maxHeartbeats 400000 in
theorem otext_ok (k p g : Nat) (h : Okn 64 k p g) (w : World) (he : Env w) :
    Calls Tryz.prog 84 #[.agg #[.int .i64 k, .int .i64 p, .int .u32 g]] w fun e w' => e = .returned (.tuple #[.string ⟨(txt 58 k p g).toArray⟩, .int .i64 0]) ∧ Below w.heap.size w w' := by
  have HR := Lib.hid (h.rg (by omega))
  have HH := Lib.hid h
  have HE := Lib.hid he
  clear h he
  go_enter Tryz.func84, Tryz.ntmps84
  go_wp2_with fail
  refine (ofOuter_ok _ _ _ HR.out _).mono ?_
  rintro e w1 ⟨rfl, hb1⟩
  have HB1 := Lib.hid (bel2 ((Below.refl _ _).alloc (Nat.le_refl _) _) hb1 : Below w.heap.size w w1)
  go_wp2_with fail
  refine (wtext_ok 58 64 64 k p g rfl HH.out (by omega) _ (HE.out.below HB1.out)).mono ?_
  rintro e w2 ⟨rfl, hb2⟩
  go_wp2
  go_ret2
  exact ⟨rfl, bel2 HB1.out hb2⟩
set_option maxHeartbeats 400000 in
theorem otext_bad (k p g : Int) (hr : Rg k p g) (h : Bad 64 k p g) (w : World) :
    Calls Tryz.prog 84 #[.agg #[.int .i64 k, .int .i64 p, .int .u32 g]] w fun e w' => e = .returned (.tuple #[.string ⟨#[]⟩, .int .i64 2]) ∧ Below w.heap.size w w' := by
  have HR := Lib.hid hr
  have HH := Lib.hid h
  clear h hr
  go_enter Tryz.func84, Tryz.ntmps84
  go_wp2_with fail
  refine (ofOuter_ok _ _ _ HR.out _).mono ?_
  rintro e w1 ⟨rfl, hb1⟩
  have HB1 := Lib.hid (bel2 ((Below.refl _ _).alloc (Nat.le_refl _) _) hb1 : Below w.heap.size w w1)
  go_wp2_with fail
  refine (wtext_bad 58 64 k p g HR.out (by omega) HH.out _).mono ?_
  rintro e w2 ⟨rfl, hb2⟩
  go_wp2
  go_ret2
  exact ⟨rfl, bel2 HB1.out hb2⟩
end Go.Proofs.YtenggngcigkakaaGreatDoor
