/- LedgerNil gives true: the walk. -/
import Derived.Test.YtenggngcigkakaaGreatDoorHy
namespace Go.Proofs.YtenggngcigkakaaGreatDoor
open Go.RowKit

theorem first_no0 (p : Option Addr) (k i g : Int) (w : World) (h : Inv w p) : Calls Tryz.prog 22 #[.pointer p, okey k i g] w fun e w' => e = .returned (.tuple #[.agg #[.int .i64 0, .int .i64 0, .int .i64 0, .int .u32 0, .int .i64 0, .int .i64 0], .bool false]) ∧ Below w.heap.size w w' := first_no p k i g w h
theorem ended_no0 (p : Option Addr) (k i g : Int) (w : World) (h : Inv w p) : Calls Tryz.prog 24 #[.pointer p, okey k i g] w fun e w' => e = .returned (.tuple #[.int .i64 0, .bool false]) ∧ Below w.heap.size w w' := ended_no p k i g w h
theorem ofs_no0 (p : Option Addr) (k i g : Int) (w : World) (h : Inv w p) : Calls Tryz.prog 27 #[.pointer p, okey k i g] w fun e w' => (∃ a c, e = .returned (.slice a 0 c)) ∧ Below w.heap.size w w' := ofs_no p k i g w h
set_option maxRecDepth 100000 in
set_option maxHeartbeats 4000000 in
theorem lNil_walk (a : Att) (w : World) (_ : a.Rg) (he : EnvL w) : Calls Tryz.prog 6 #[.agg #[.int .i64 a.t, .int .i64 a.k, .int .i64 a.i, .int .u32 a.g, .int .i64 a.y, .int .i64 a.n]] w fun e w' => e = .returned (.bool true) ∧ Below w.heap.size w w' := by
  have HE := Lib.hid he
  have HB0 := Lib.hid (bel_new w (.cells #[.int .i64 a.t, .int .i64 a.k, .int .i64 a.i, .int .u32 a.g, .int .i64 a.y, .int .i64 a.n] 32))
  have HX0 : Hid (Bk (w.alloc (.cells #[.int .i64 a.t, .int .i64 a.k, .int .i64 a.i, .int .u32 a.g, .int .i64 a.y, .int .i64 a.n] 32)) w.heap.size 32 a.cl.toArray) := Bk.new w _ _
  have HB1 := Lib.hid (bel2 HB0.out (bel_new _ (.cells #[.pointer none] 56)))
  have HX1 := Lib.hid (HX0.out.up (.cells #[.pointer none] 56))
  have hz1 := Bk.new (w.alloc (.cells #[.int .i64 a.t, .int .i64 a.k, .int .i64 a.i, .int .u32 a.g, .int .i64 a.y, .int .i64 a.n] 32)) 56 #[.pointer none]
  rw [size_up] at hz1
  have HZ1 := Lib.hid hz1
  have HB2 := Lib.hid (bel2 HB1.out (bel_new _ (.cells #[.pointer none, .pointer (some ⟨w.heap.size + 1, 0, none⟩)] 27)))
  have HX2 := Lib.hid (HX1.out.up (.cells #[.pointer none, .pointer (some ⟨w.heap.size + 1, 0, none⟩)] 27))
  have HZ2 := Lib.hid (HZ1.out.up (.cells #[.pointer none, .pointer (some ⟨w.heap.size + 1, 0, none⟩)] 27))
  have hs2 := Bk.new ((w.alloc (.cells #[.int .i64 a.t, .int .i64 a.k, .int .i64 a.i, .int .u32 a.g, .int .i64 a.y, .int .i64 a.n] 32)).alloc (.cells #[.pointer none] 56)) 27 #[.pointer none, .pointer (some ⟨w.heap.size + 1, 0, none⟩)]
  rw [size_up, size_up] at hs2
  have HS2 := Lib.hid hs2
  clear he hz1 hs2
  go_enter Tryz.func6, Tryz.ntmps6
  go_wp2
  clear HB0 HB1 HX0 HX1 HZ1
  generalize ((w.alloc (.cells #[.int .i64 a.t, .int .i64 a.k, .int .i64 a.i, .int .u32 a.g, .int .i64 a.y, .int .i64 a.n] 32)).alloc (.cells #[.pointer none] 56)).alloc (.cells #[.pointer none, .pointer (some ⟨w.heap.size + 1, 0, none⟩)] 27) = W0 at *
  have HI : Hid (∀ j, j < 2 → ∃ p, W0.cell? ⟨w.heap.size + 1 + 1, j, none⟩ = some (.pointer p) ∧ Inv W0 p) := fun j hj => by
    match j, hj with
    | 0, _ => exact ⟨none, HS2.out.cell 0, .inl rfl⟩
    | 1, _ => exact ⟨some ⟨w.heap.size + 1, 0, none⟩, HS2.out.cell 1, .inr ⟨_, rfl, HZ2.out⟩⟩
  clear HS2 HZ2
  go_loopw [15] (fun i wr => ∃ j : Nat, j ≤ 2 ∧ i = .int .i64 j ∧ Hid (Below W0.heap.size W0 wr)) (fun i _ => 2 - (intOf i).toNat)
  case atStart => exact ⟨0, Nat.zero_le _, rfl, Below.refl _ _⟩
  case round =>
    obtain ⟨j, hj, rfl, HB⟩ := hrel
    by_cases hlt : j < 2
    · obtain ⟨p, hp0, hinv⟩ := HI.out j hlt
      have hp := cell_stays HB.out hp0
      have HV := Lib.hid (hinv.below HB.out)
      have HX := Lib.hid (HX2.out.below HB.out)
      obtain ⟨d0, d1, d2, d3, d4, d5⟩ := six_new HX.out
      simp only [Nat.zero_add] at d0 d1 d2 d3 d4 d5
      clear hp0 hinv
      go_wp2_with fail
      refine (first_no0 p a.k a.i a.g wr HV.out).mono ?_
      rintro e w3 ⟨rfl, hb3⟩
      have hb4 := bel2 hb3 (bel_new w3 (.cells #[.int .i64 0, .int .i64 0, .int .i64 0, .int .u32 0, .int .i64 0, .int .i64 0] 32))
      have HV4 := Lib.hid (HV.out.below hb4)
      have HX4 := Lib.hid (HX.out.below hb4)
      have HB4 := Lib.hid (bel2 HB.out hb4)
      have HF4 := Lib.hid (Bk.new w3 32 #[.int .i64 0, .int .i64 0, .int .i64 0, .int .u32 0, .int .i64 0, .int .i64 0])
      clear hb3 hb4 d0 d1 d2 d3 d4 d5
      obtain ⟨d0, d1, d2, d3, d4, d5⟩ := six_new HX4.out
      simp only [Nat.zero_add] at d0 d1 d2 d3 d4 d5
      go_wp2_with fail
      generalize w3.alloc (.cells #[.int .i64 0, .int .i64 0, .int .i64 0, .int .u32 0, .int .i64 0, .int .i64 0] 32) = w4 at *
      refine (ended_no0 p a.k a.i a.g _ HV4.out).mono ?_
      rintro e w5 ⟨rfl, hb5⟩
      have HV5 := Lib.hid (HV4.out.below hb5)
      have HX5 := Lib.hid (HX4.out.below hb5)
      have HB5 := Lib.hid (bel2 HB4.out hb5)
      have HF5 := Lib.hid (HF4.out.below hb5)
      clear hb5 d0 d1 d2 d3 d4 d5 hp
      obtain ⟨d0, d1, d2, d3, d4, d5⟩ := six_new HX5.out
      simp only [Nat.zero_add] at d0 d1 d2 d3 d4 d5
      go_wp2_with fail
      refine (add_no p a _ HV5.out).mono ?_
      rintro e w6 ⟨rfl, hb6⟩
      have HV6 := Lib.hid (HV5.out.below hb6)
      have HX6 := Lib.hid (HX5.out.below hb6)
      have HB6 := Lib.hid (bel2 HB5.out hb6)
      have HF6 := Lib.hid (HF5.out.below hb6)
      clear hb6 d0 d1 d2 d3 d4 d5
      obtain ⟨d0, d1, d2, d3, d4, d5⟩ := six_new HX6.out
      simp only [Nat.zero_add] at d0 d1 d2 d3 d4 d5
      go_wp2_with fail
      refine (all_no p _ HV6.out).mono ?_
      rintro e w' ⟨rfl, rfl⟩
      go_wp2_with fail
      refine (ofs_no0 p a.k a.i a.g _ HV6.out).mono ?_
      rintro e w7 ⟨⟨oa, oc, rfl⟩, hb7⟩
      have HV7 := Lib.hid (HV6.out.below hb7)
      have HB7 := Lib.hid (bel2 HB6.out hb7)
      have HF7 := Lib.hid (HF6.out.below hb7)
      clear hb7 d0 d1 d2 d3 d4 d5
      obtain ⟨d0, d1, d2, d3, d4, d5⟩ := six_new (a := att0) HF7.out
      simp only [Nat.zero_add, att0] at d0 d1 d2 d3 d4 d5
      go_wp2_with fail
      refine (len_no p _ HV7.out).mono ?_
      rintro e w' ⟨rfl, rfl⟩
      go_wp2_with fail
      refine (copy_no p _ HV7.out).mono ?_
      rintro e w' ⟨rfl, rfl⟩
      go_wp2
      go_roundw
      case rel => exact ⟨j + 1, by omega, by go_num, HB7.out⟩
      case measure => simp [intOf]; omega
    · obtain rfl : j = 2 := by omega
      clear hlt
      go_wp2_with fail
      have HBB := Lib.hid (bel2 HB2.out HB.out)
      refine (works_ok _ (HE.out.below HBB.out)).mono ?_
      rintro e w3 ⟨rfl, hb3⟩
      have HB3 := Lib.hid (bel2 HBB.out hb3)
      clear hb3
      go_wp2
      go_ret
      exact ⟨rfl, HB3.out⟩
end Go.Proofs.YtenggngcigkakaaGreatDoor
