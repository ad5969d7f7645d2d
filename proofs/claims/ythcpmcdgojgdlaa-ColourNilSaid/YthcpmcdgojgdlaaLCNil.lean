/- The walk of the statement ColourNil: it returns true for every slot. -/
import Derived.Test.YthcpmcdgojgdlaaCw
namespace Go.Proofs.Ythcpmcdgojgdlaa
open Go.RowKit

structure NilSt (w0 w : World) (A Z : Nat) : Prop where
  a : Bk w A 24 #[.pointer none, .pointer (some ⟨Z, 0, none⟩)]
  z : Bk w Z 42 (pcells zeroP)
  bel : Below w0.heap.size w0 w
theorem NilSt.quiet {w0 w w' : World} {A Z : Nat} (h : NilSt w0 w A Z) (k : Below w.heap.size w w') : NilSt w0 w' A Z :=
  ⟨h.a.below k, h.z.below k, h.bel.trans (k.mono h.bel.size)⟩
set_option maxRecDepth 100000 in
set_option maxHeartbeats 4000000 in
theorem cNil_walk (i : Int) (w : World) (_ : -9223372036854775808 ≤ i) (h1 : i ≤ 9223372036854775807) :
    Calls Try.prog 4 #[.int .i64 i] w fun e w' => e = .returned (.bool true) ∧ Below w.heap.size w w' := by
  have hz := zero_paint
  obtain ⟨zs, hzs⟩ : ∃ zs, pcells zeroP = zs := ⟨_, rfl⟩
  have hsz : zs.size = 257 := by rw [← hzs]; exact pcells_size _
  have hne : ¬ zs = #[] := by rw [← hzs]; exact pcells_ne _
  simp only [hzs] at hz
  have HZ := Lib.hid hzs
  have HI63 := Lib.hid h1
  clear hzs h1
  go_enter Try.func4, Try.ntmps4
  go_wp2
  obtain ⟨w2, hw2⟩ : ∃ w2, (w.alloc (.cells zs 42)).alloc (.cells #[.pointer none, .pointer (some ⟨w.heap.size, 0, none⟩)] 24) = w2 := ⟨_, rfl⟩
  have ST : Hid (NilSt w w2 (w.heap.size + 1) w.heap.size) := by
    have b1 := Bk.new w 42 zs
    have b2 := Bk.new (w.alloc (.cells zs 42)) 24 #[.pointer none, .pointer (some ⟨w.heap.size, 0, none⟩)]
    rw [World.size_alloc, hw2] at b2
    refine ⟨b2, ?_, ?_⟩
    · rw [HZ.out, ← hw2]; exact b1.below (bel_new _ _)
    · rw [← hw2]; exact (bel_new w _).alloc (by simp) _
  rw [hw2]
  clear hw2 hz hsz hne HZ
  obtain ⟨Z, hZ⟩ : ∃ Z, w.heap.size = Z := ⟨_, rfl⟩
  rw [hZ] at ST
  rw [hZ]
  clear hZ
  generalize Z + 1 = A at *
  go_loopw [20] (fun v wr => ∃ k : Nat, k ≤ 2 ∧ v = .int .i64 k ∧ Hid (NilSt w wr A Z)) (fun v _ => 2 - (intOf v).toNat)
  case atStart => exact ⟨0, by decide, rfl, ST.out⟩
  case round =>
    obtain ⟨k, hk, rfl, HS⟩ := hrel
    by_cases hlt : k < 2
    · have hv : ∃ v, Inv wr v ∧ wr.cell? ⟨A, k, none⟩ = some (.pointer v) := by
        match k, hlt with
        | 0, _ => exact ⟨none, .inl rfl, HS.out.a.cell 0⟩
        | 1, _ => exact ⟨_, .inr ⟨Z, rfl, HS.out.z⟩, HS.out.a.cell 1⟩
      obtain ⟨v, hinv, hc⟩ := hv
      have HI := Lib.hid hinv
      clear hinv
      go_wp2_with fail
      refine (of_inv v _ _ HI.out).mono ?_
      rintro e w' ⟨rfl, rfl⟩
      go_wp2_with fail
      refine (shade_inv v _ _ HI.out).mono ?_
      rintro e w3 ⟨rfl, hb⟩
      have HS3 := Lib.hid (HS.out.quiet hb)
      have HI3 := Lib.hid (HI.out.below hb)
      clear hb HS HI hc
      go_wp2_with fail
      refine (grey_inv v _ _ HI3.out).mono ?_
      rintro e w4 ⟨rfl, hb⟩
      have HS4 := Lib.hid (HS3.out.quiet hb)
      have HI4 := Lib.hid (HI3.out.below hb)
      clear hb HS3 HI3
      go_wp2_with fail
      refine (counts_inv v _ HI4.out).mono ?_
      rintro e w' ⟨rfl, rfl⟩
      go_wp2_with fail
      refine (clear_inv v _ HI4.out).mono ?_
      rintro e w' ⟨rfl, rfl⟩
      go_wp2_with fail
      refine (black_inv v _ _ HI4.out).mono ?_
      rintro e w5 ⟨rfl, hb⟩
      have HS5 := Lib.hid (HS4.out.quiet hb)
      have HI5 := Lib.hid (HI4.out.below hb)
      clear hb HS4 HI4
      go_wp2_with fail
      refine (born_inv v _ _ HI5.out).mono ?_
      rintro e w6 ⟨rfl, hb⟩
      have HS6 := Lib.hid (HS5.out.quiet hb)
      have HI6 := Lib.hid (HI5.out.below hb)
      clear hb HS5 HI5
      go_wp2_with fail
      refine (bleach_inv v _ _ HI6.out).mono ?_
      rintro e w7 ⟨rfl, hb⟩
      have HS7 := Lib.hid (HS6.out.quiet hb)
      have HI7 := Lib.hid (HI6.out.below hb)
      clear hb HS6 HI6
      go_wp2_with fail
      refine (copy_inv v _ HI7.out).mono ?_
      rintro e w' ⟨rfl, rfl⟩
      go_wp2
      go_roundw
      case rel => exact ⟨k + 1, by omega, by go_num, HS7.out⟩
      case measure => simp [intOf]; omega
    · obtain rfl : k = 2 := by omega
      go_wp2_with fail
      refine (works_ok _).mono ?_
      rintro e w3 ⟨rfl, hb3⟩
      go_wp2
      go_ret
      exact ⟨rfl, bel2 HS.out.bel hb3⟩
end Go.Proofs.Ythcpmcdgojgdlaa
