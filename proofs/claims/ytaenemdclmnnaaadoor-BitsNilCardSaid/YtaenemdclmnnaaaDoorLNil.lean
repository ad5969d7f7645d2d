/- The walk of the statement BitsNil: it returns true for every number. -/
import Derived.Test.YtaenemdclmnnaaaDoorBw
namespace Go.Proofs.YtaenemdclmnnaaaDoor
open Go.RowKit

structure NilSt (w0 w : World) (b g A Z : Nat) : Prop where
  s : SetW w b g 5 (fun _ => false)
  a : Bk w A 24 #[.pointer none, .pointer (some ⟨Z, 0, none⟩)]
  z : Bk w Z 42 #[.int .i64 0, .slice none 0 0]
  t : Tab w
  bel : Below w0.heap.size w0 w
theorem NilSt.quiet {w0 w w' : World} {b g A Z : Nat} (h : NilSt w0 w b g A Z) (k : Below w.heap.size w w') : NilSt w0 w' b g A Z :=
  ⟨h.s.below k, h.a.below k, h.z.below k, h.t.below k, h.bel.trans (k.mono h.bel.size)⟩
theorem lst_none (n : Nat) : lst (fun _ => false) n = [] := by simp [lst]

set_option maxRecDepth 100000 in
set_option maxHeartbeats 4000000 in
theorem nil_walk (i : Int) (w : World) (h0 : -9223372036854775808 ≤ i) (h1 : i ≤ 9223372036854775807) (hT : Tab w) :
    Calls Tryd.prog 4 #[.int .i64 i] w fun e w' => e = .returned (.bool true) ∧ Below w.heap.size w w' := by
  have HT := Lib.hid hT
  clear hT
  go_enter Tryd.func4, Tryd.ntmps4
  go_wp2_with fail
  refine (new_ok 5 _ (by decide) (by decide)).mono ?_
  rintro e w1 ⟨b, g, p1, p2, rfl, hs1, hb1⟩
  have S1 := Lib.hid hs1
  have B1 := Lib.hid hb1
  clear hs1 hb1 p1 p2
  go_wp2
  obtain ⟨w2, hw2⟩ : ∃ w2, (w1.alloc (.cells #[.int .i64 0, .slice none 0 0] 42)).alloc (.cells #[.pointer none, .pointer (some ⟨w1.heap.size, 0, none⟩)] 24) = w2 := ⟨_, rfl⟩
  have hbl : Below w1.heap.size w1 w2 := by rw [← hw2]; exact ((Below.refl _ w1).alloc (Nat.le_refl _) _).alloc (by simp) _
  have ST : Hid (NilSt w w2 b g (w1.heap.size + 1) w1.heap.size) := by
    have hz := (Bk.new w1 42 #[.int .i64 0, .slice none 0 0])
    have ha := Bk.new (w1.alloc (.cells #[.int .i64 0, .slice none 0 0] 42)) 24 #[.pointer none, .pointer (some ⟨w1.heap.size, 0, none⟩)]
    rw [World.size_alloc, hw2] at ha
    refine ⟨S1.out.below hbl, ha, ?_, (HT.out.below B1.out).below hbl, bel2 B1.out hbl⟩
    rw [← hw2]
    exact hz.same (Below.heap_alloc _ _ _ (by simp))
  rw [hw2]
  clear hw2 hbl S1 B1
  obtain ⟨A, hA⟩ : ∃ A, w1.heap.size + 1 = A := ⟨_, rfl⟩
  obtain ⟨Z, hZ⟩ : ∃ Z, w1.heap.size = Z := ⟨_, rfl⟩
  rw [hA, hZ] at ST
  rw [hA]
  clear hA
  try rw [hZ]
  clear hZ
  go_loopw [21] (fun i wr => ∃ k : Nat, k ≤ 2 ∧ i = .int .i64 k ∧ Hid (NilSt w wr b g A Z)) (fun i _ => 2 - (intOf i).toNat)
  case atStart => exact ⟨0, by decide, rfl, ST.out⟩
  case round =>
    obtain ⟨k, hk, rfl, HS⟩ := hrel
    by_cases hlt : k < 2
    · have hv : ∃ v, Inv wr v ∧ wr.cell? ⟨A, k, none⟩ = some (.pointer v) := by
        match k, hlt with
        | 0, _ => exact ⟨none, .inl rfl, HS.out.a.cell 0⟩
        | 1, _ => exact ⟨_, .inr ⟨Z, rfl, HS.out.z⟩, HS.out.a.cell 1⟩
      obtain ⟨v, hinv, hc⟩ := hv
      have HI := Lib.hid hinv
      clear hinv
      go_wp2_with fail
      refine (next_inv v i _ HI.out).mono ?_
      rintro e w3 ⟨rfl, hb3⟩
      have HS3 := Lib.hid (HS.out.quiet hb3)
      have HI3 := Lib.hid (HI.out.below hb3)
      clear hb3 HS HI hc
      go_wp2_with fail
      refine (clear_inv v _ HI3.out).mono ?_
      rintro e w' ⟨rfl, rfl⟩
      go_wp2_with fail
      refine (add_inv v _ _ HI3.out).mono ?_
      rintro e w' ⟨rfl, rfl⟩
      go_wp2_with fail
      refine (remove_inv v _ _ HI3.out).mono ?_
      rintro e w' ⟨rfl, rfl⟩
      go_wp2_with fail
      refine (has_inv v _ _ HI3.out).mono ?_
      rintro e w' ⟨rfl, rfl⟩
      go_wp2_with fail
      refine (count_inv v _ HI3.out).mono ?_
      rintro e w' ⟨rfl, rfl⟩
      go_wp2_with fail
      refine (all_inv v _ HI3.out).mono ?_
      rintro e w4 ⟨rfl, hb4⟩
      have HS4 := Lib.hid (HS3.out.quiet hb4)
      have HI4 := Lib.hid (HI3.out.below hb4)
      clear hb4 HS3 HI3
      go_wp2_with fail
      refine (size_inv v _ HI4.out).mono ?_
      rintro e w' ⟨rfl, rfl⟩
      go_wp2_with fail
      refine (copy_inv v _ HI4.out).mono ?_
      rintro e w' ⟨rfl, rfl⟩
      go_wp2_with fail
      refine (union_inv1 v _ _ HI4.out).mono ?_
      rintro e w' ⟨rfl, rfl⟩
      go_wp2_with fail
      refine (union_inv2 b g 5 _ v _ HS4.out.s HI4.out).mono ?_
      rintro e w' ⟨rfl, rfl⟩
      go_wp2_with fail
      refine (minus_inv1 v _ _ HI4.out).mono ?_
      rintro e w' ⟨rfl, rfl⟩
      go_wp2_with fail
      refine (minus_inv2 b g 5 _ v _ HS4.out.s HI4.out).mono ?_
      rintro e w' ⟨rfl, rfl⟩
      go_wp2
      go_roundw
      case rel => exact ⟨k + 1, by omega, by go_num, HS4.out⟩
      case measure => simp [intOf]; omega
    · obtain rfl : k = 2 := by omega
      go_wp2_with fail
      refine (count_ok b g 5 _ _ HS.out.s).mono ?_
      rw [lst_none]
      rintro e w' ⟨rfl, rfl⟩
      go_wp2_with fail
      refine (works_ok _ HS.out.t).mono ?_
      rintro e w5 ⟨rfl, hb5⟩
      go_wp2
      go_ret
      exact ⟨rfl, bel2 HS.out.bel hb5⟩
end Go.Proofs.YtaenemdclmnnaaaDoor
