/- The walk of the statement SlotsNil: it returns true for every slot and generation. -/
import Derived.Test.YtgdboppdncoieaaSx
namespace Go.Proofs.Ytgdboppdncoieaa
open Go.RowKit

structure NilSt (w0 w : World) (A Z R : Nat) (i g : Int) : Prop where
  a : Bk w A 25 #[.pointer none, .pointer (some ⟨Z, 0, none⟩)]
  z : Bk w Z 48 (tcells zeroT)
  r : Bk w R 33 #[.int .i64 i, .int .u32 g]
  bel : Below w0.heap.size w0 w
theorem NilSt.quiet {w0 w w' : World} {A Z R : Nat} {i g : Int} (h : NilSt w0 w A Z R i g) (k : Below w.heap.size w w') : NilSt w0 w' A Z R i g :=
  ⟨h.a.below k, h.z.below k, h.r.below k, h.bel.trans (k.mono h.bel.size)⟩

set_option maxRecDepth 100000 in
set_option maxHeartbeats 4000000 in
theorem nil4_walk (i g : Int) (w : World) (_h0 : -9223372036854775808 ≤ i) (_h1 : i ≤ 9223372036854775807) (_h2 : 0 ≤ g) (_h3 : g ≤ 4294967295) :
    Calls Try.prog 4 #[.agg #[.int .i64 i, .int .u32 g]] w fun e w' => e = .returned (.bool true) ∧ Below w.heap.size w w' := by
  have hz := zero_table
  obtain ⟨zs, hzs⟩ : ∃ zs, tcells zeroT = zs := ⟨_, rfl⟩
  have hsz : zs.size = 513 := by rw [← hzs]; exact tcells_size _
  have hne : ¬ zs = #[] := by rw [← hzs]; exact tcells_ne _
  simp only [hzs] at hz
  have HZ := Lib.hid hzs
  clear hzs _h0 _h1 _h2 _h3
  go_enter Try.func4, Try.ntmps4
  go_wp2
  obtain ⟨w2, hw2⟩ : ∃ w2, ((w.alloc (.cells #[.int .i64 i, .int .u32 g] 33)).alloc (.cells zs 48)).alloc (.cells #[.pointer none, .pointer (some ⟨w.heap.size + 1, 0, none⟩)] 25) = w2 := ⟨_, rfl⟩
  have ST : Hid (NilSt w w2 (w.heap.size + 2) (w.heap.size + 1) w.heap.size i g) := by
    have e1 : (w.alloc (.cells #[.int .i64 i, .int .u32 g] 33)).heap.size = w.heap.size + 1 := by simp
    have e2 : ((w.alloc (.cells #[.int .i64 i, .int .u32 g] 33)).alloc (.cells zs 48)).heap.size = w.heap.size + 2 := by simp
    have b1 := Bk.new w 33 #[.int .i64 i, .int .u32 g]
    have b2 := Bk.new (w.alloc (.cells #[.int .i64 i, .int .u32 g] 33)) 48 zs
    have b3 := Bk.new ((w.alloc (.cells #[.int .i64 i, .int .u32 g] 33)).alloc (.cells zs 48)) 25 #[.pointer none, .pointer (some ⟨w.heap.size + 1, 0, none⟩)]
    rw [e1] at b2
    rw [e2] at b3
    rw [hw2] at b3
    refine ⟨b3, ?_, ?_, ?_⟩
    · rw [HZ.out, ← hw2]; exact b2.same (Below.heap_alloc _ _ _ (by omega))
    · rw [← hw2]; exact (b1.same (Below.heap_alloc _ _ _ (by omega))).same (Below.heap_alloc _ _ _ (by omega))
    · rw [← hw2]; exact (((Below.refl _ w).alloc (Nat.le_refl _) _).alloc (by omega) _).alloc (by omega) _
  rw [show w.heap.size + 1 + 1 = w.heap.size + 2 from rfl, hw2]
  clear hw2 hz hsz hne HZ
  obtain ⟨R, hR⟩ : ∃ R, w.heap.size = R := ⟨_, rfl⟩
  rw [hR] at ST
  rw [hR]
  clear hR
  generalize R + 2 = A at *
  generalize R + 1 = Z at *
  go_loopw [5] (fun v wr => ∃ k : Nat, k ≤ 2 ∧ v = .int .i64 k ∧ Hid (NilSt w wr A Z R i g)) (fun v _ => 2 - (intOf v).toNat)
  case atStart => exact ⟨0, by decide, rfl, ST.out⟩
  case round =>
    obtain ⟨k, hk, rfl, HS⟩ := hrel
    by_cases hlt : k < 2
    · have hv : ∃ v, Inv wr v ∧ wr.cell? ⟨A, k, none⟩ = some (.pointer v) := by
        match k, hlt with
        | 0, _ => exact ⟨none, .inl rfl, HS.out.a.cell 0⟩
        | 1, _ => exact ⟨_, .inr ⟨Z, rfl, HS.out.z⟩, HS.out.a.cell 1⟩
      obtain ⟨v, hinv, hc⟩ := hv
      have HI := Lib.hid hinv
      clear hinv
      go_wp2_with fail
      refine (take_inv v _ HI.out).mono ?_
      rintro e w3 ⟨rfl, hb3⟩
      have hal : Below w3.heap.size w3 (w3.alloc (.cells #[.int .i64 0, .int .u32 0] 33)) := (Below.refl _ w3).alloc (Nat.le_refl _) _
      have HS3 := Lib.hid ((HS.out.quiet hb3).quiet hal)
      have HI3 := Lib.hid ((HI.out.below hb3).below hal)
      have r0 : w3.cell? ⟨R, 0, none⟩ = some (.int .i64 i) := (HS.out.quiet hb3).r.cell 0
      have r1 : w3.cell? ⟨R, 1, none⟩ = some (.int .u32 g) := (HS.out.quiet hb3).r.cell 1
      have hlr := (HS.out.quiet hb3).r.lt
      clear hb3 hal HS HI hc
      go_wp2_with fail
      refine (gen_inv v i _ HI3.out).mono ?_
      rintro e w' ⟨rfl, rfl⟩
      go_wp2_with fail
      clear r0 r1 hlr
      generalize w3.heap.size = B at *
      generalize w3.alloc (.cells #[.int .i64 0, .int .u32 0] 33) = w4 at *
      refine (give_inv v i g _ HI3.out).mono ?_
      rintro e w5 ⟨rfl, hb5⟩
      have HS5 := Lib.hid (HS3.out.quiet hb5)
      have HI5 := Lib.hid (HI3.out.below hb5)
      have r0 : w5.cell? ⟨R, 0, none⟩ = some (.int .i64 i) := HS5.out.r.cell 0
      have r1 : w5.cell? ⟨R, 1, none⟩ = some (.int .u32 g) := HS5.out.r.cell 1
      clear hb5 HS3 HI3
      go_wp2_with fail
      clear r0 r1
      refine (check_inv v i g _ HI5.out).mono ?_
      rintro e w6 ⟨rfl, hb6⟩
      have HS6 := Lib.hid (HS5.out.quiet hb6)
      have HI6 := Lib.hid (HI5.out.below hb6)
      clear hb6 HS5 HI5
      go_wp2_with fail
      refine (retired_inv v _ HI6.out).mono ?_
      rintro e w7 ⟨rfl, hb7⟩
      have HS7 := Lib.hid (HS6.out.quiet hb7)
      have HI7 := Lib.hid (HI6.out.below hb7)
      clear hb7 HS6 HI6
      go_wp2_with fail
      refine (free_inv v _ HI7.out).mono ?_
      rintro e w8 ⟨rfl, hb8⟩
      have HS8 := Lib.hid (HS7.out.quiet hb8)
      have HI8 := Lib.hid (HI7.out.below hb8)
      clear hb8 HS7 HI7
      go_wp2_with fail
      refine (len_inv v _ HI8.out).mono ?_
      rintro e w9 ⟨rfl, hb9⟩
      have HS9 := Lib.hid (HS8.out.quiet hb9)
      have HI9 := Lib.hid (HI8.out.below hb9)
      clear hb9 HS8 HI8
      go_wp2_with fail
      refine (taken_inv v _ HI9.out).mono ?_
      rintro e w10 ⟨rfl, hb10⟩
      have HS10 := Lib.hid (HS9.out.quiet hb10)
      have HI10 := Lib.hid (HI9.out.below hb10)
      clear hb10 HS9 HI9
      go_wp2_with fail
      refine (copy_inv v _ HI10.out).mono ?_
      rintro e w' ⟨rfl, rfl⟩
      go_wp2
      go_roundw
      case rel => exact ⟨k + 1, by omega, by go_num, HS10.out⟩
      case measure => simp [intOf]; omega
    · obtain rfl : k = 2 := by omega
      go_wp2_with fail
      refine (works_ok _).mono ?_
      rintro e w3 ⟨rfl, hb3⟩
      go_wp2
      go_ret
      exact ⟨rfl, bel2 HS.out.bel hb3⟩
end Go.Proofs.Ytgdboppdncoieaa
