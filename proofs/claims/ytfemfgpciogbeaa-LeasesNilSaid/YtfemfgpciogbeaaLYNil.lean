/- The walk of LeasesNil: it returns true for every input. -/
import Derived.Test.YtfemfgpciogbeaaYw
namespace Go.Proofs.Ytfemfgpciogbeaa
open Go.RowKit

set_option maxHeartbeats 2000000 in
set_option maxRecDepth 100000 in
theorem yNil_walk (k i g x1 x2 : Int) (w : World) (_hr : RgO k i g) (_h10 : -9223372036854775808 ≤ x1) (_h11 : x1 ≤ 9223372036854775807) (_h20 : -9223372036854775808 ≤ x2) (_h21 : x2 ≤ 9223372036854775807) :
    Calls Try.prog 4 #[.agg #[.int .i64 k, .int .i64 i, .int .u32 g], .int .i64 x1, .int .i64 x2] w fun e w' => e = .returned (.bool true) ∧ Below w.heap.size w w' := by
  go_enter Try.func4, Try.ntmps4
  go_wp2
  have hA : Bk (((w.alloc (.cells #[.int .i64 k, .int .i64 i, .int .u32 g] 33)).alloc (.cells #[.pointer none, .pointer none] 54)).alloc (.cells #[.pointer none, .pointer (some ⟨w.heap.size + 1, 0, none⟩)] 25)) w.heap.size 33 #[.int .i64 k, .int .i64 i, .int .u32 g] := ((Bk.new w _ _).up _).up _
  have hZ : Bk (((w.alloc (.cells #[.int .i64 k, .int .i64 i, .int .u32 g] 33)).alloc (.cells #[.pointer none, .pointer none] 54)).alloc (.cells #[.pointer none, .pointer (some ⟨w.heap.size + 1, 0, none⟩)] 25)) (w.heap.size + 1) 54 #[.pointer none, .pointer none] := by
    have := Bk.new (w.alloc (.cells #[.int .i64 k, .int .i64 i, .int .u32 g] 33)) 54 #[.pointer none, .pointer none]
    rw [World.size_alloc] at this
    exact this.up _
  have hT : Bk (((w.alloc (.cells #[.int .i64 k, .int .i64 i, .int .u32 g] 33)).alloc (.cells #[.pointer none, .pointer none] 54)).alloc (.cells #[.pointer none, .pointer (some ⟨w.heap.size + 1, 0, none⟩)] 25)) (w.heap.size + 1 + 1) 25 #[.pointer none, .pointer (some ⟨w.heap.size + 1, 0, none⟩)] := by
    have := Bk.new ((w.alloc (.cells #[.int .i64 k, .int .i64 i, .int .u32 g] 33)).alloc (.cells #[.pointer none, .pointer none] 54)) 25 #[.pointer none, .pointer (some ⟨w.heap.size + 1, 0, none⟩)]
    rw [World.size_alloc, World.size_alloc] at this
    exact this
  have hB : Below w.heap.size w (((w.alloc (.cells #[.int .i64 k, .int .i64 i, .int .u32 g] 33)).alloc (.cells #[.pointer none, .pointer none] 54)).alloc (.cells #[.pointer none, .pointer (some ⟨w.heap.size + 1, 0, none⟩)] 25)) := bel_alloc (bel_alloc (bel_alloc (Below.refl _ _) _) _) _
  generalize ((w.alloc (.cells #[.int .i64 k, .int .i64 i, .int .u32 g] 33)).alloc (.cells #[.pointer none, .pointer none] 54)).alloc (.cells #[.pointer none, .pointer (some ⟨w.heap.size + 1, 0, none⟩)] 25) = w4 at *
  have FA : Hid (∀ W, Below w4.heap.size w4 W → W.cell? ⟨w.heap.size, 0, none⟩ = some (.int .i64 k) ∧ W.cell? ⟨w.heap.size, 1, none⟩ = some (.int .i64 i) ∧ W.cell? ⟨w.heap.size, 2, none⟩ = some (.int .u32 g) ∧ w.heap.size < W.heap.size) := fun W hW => ob_cells (hA.below hW)
  have FT : Hid (∀ W (j : Nat), Below w4.heap.size w4 W → j < 2 → ∃ v, W.cell? ⟨w.heap.size + 1 + 1, j, none⟩ = some (.pointer v) ∧ (∀ W', Below W.heap.size W W' → DInv W' v)) := fun W j hW hj => by
    have h2 := hT.below hW
    match j, hj with
    | 0, _ => exact ⟨none, h2.cell 0, fun _ _ => .inl rfl⟩
    | 1, _ => exact ⟨_, h2.cell 1, fun W' hW' => .inr ⟨_, rfl, (hZ.below hW).below hW'⟩⟩
  have HB := Lib.hid hB
  clear hA hZ hT hB
  go_loopw [21] (fun s wr => ∃ j : Nat, j ≤ 2 ∧ s = .int .i64 j ∧ Hid (Below w4.heap.size w4 wr)) (fun s _ => 2 - (intOf s).toNat)
  case atStart => exact ⟨0, by omega, rfl, Below.refl _ _⟩
  case round =>
    obtain ⟨j, hj, rfl, HW⟩ := hrel
    by_cases hlt : j < 2
    · obtain ⟨v, hv, hi⟩ := FT.out wr j HW.out hlt
      have HI := Lib.hid hi
      clear hi
      go_wp2_with (first
        | (go_at_call 13; refine (dgrant_inv v x1 x2 _ (HI.out _ (Below.refl _ _))).mono ?_; rintro e w5 ⟨rfl, hb⟩; have H5 := Lib.hid hb; obtain ⟨a0, a1, a2, a3⟩ := FA.out w5 (bel2 HW.out hb); clear hb)
        | (go_at_call 19; refine (duntil_inv v k i g _ (HI.out _ (bel_alloc H5.out _))).mono ?_; rintro e w6 ⟨rfl, hb⟩; have H6 := Lib.hid ((bel_alloc H5.out _).trans (hb.mono (bel_alloc H5.out _).size)); clear a0 a1 a2 a3; obtain ⟨a0, a1, a2, a3⟩ := FA.out w6 (bel2 HW.out H6.out); have O6 := Lib.hid (box_of hb); clear hb)
        | (go_at_call 21; refine (dover_inv v k i g x2 _ (HI.out _ H6.out)).mono ?_; rintro e w7 ⟨rfl, hb⟩; have H7 := Lib.hid (bel2 H6.out hb); clear a0 a1 a2 a3; obtain ⟨a0, a1, a2, a3⟩ := FA.out w7 (bel2 HW.out H7.out); obtain ⟨b0, b1, b2, b3⟩ := ob_cells (O6.out.below hb); clear hb)
        | (go_at_call 15; refine (drenew_inv v k i g x1 x2 _ (HI.out _ H7.out)).mono ?_; rintro e w8 ⟨rfl, hb⟩; have H8 := Lib.hid (bel2 H7.out hb); clear a0 a1 a2 a3; obtain ⟨a0, a1, a2, a3⟩ := FA.out w8 (bel2 HW.out H8.out); clear hb)
        | (go_at_call 17; refine (dret_inv v k i g _ (HI.out _ H8.out)).mono ?_; rintro e w9 ⟨rfl, hb⟩; have H9 := Lib.hid (bel2 H8.out hb); clear hb)
        | (go_at_call 28; refine (dall_no v _ (HI.out _ H9.out)).mono ?_; rintro e w' ⟨rfl, rfl⟩)
        | (go_at_call 25; refine (dlen_no v _ (HI.out _ H9.out)).mono ?_; rintro e w' ⟨rfl, rfl⟩)
        | (go_at_call 23; refine (dcopy_no v _ (HI.out _ H9.out)).mono ?_; rintro e w' ⟨rfl, rfl⟩))
      go_roundw
      case rel => exact ⟨j + 1, by omega, by go_num, bel2 HW.out H9.out⟩
      case measure => simp [intOf]; omega
    · obtain rfl : j = 2 := by omega
      go_wp2_with (go_at_call 10; refine (works_ok _).mono ?_; rintro e w' ⟨rfl, hb⟩; have H9 := Lib.hid (bel2 HW.out hb); clear hb)
      go_ret
      exact ⟨rfl, bel2 HB.out H9.out⟩
end Go.Proofs.Ytfemfgpciogbeaa
