/- ExpireNil: queues that are nil, or were not made by New. -/
import Derived.Test.YtlnjgbdekcgmpaaEp
import Derived.Test.YtlnjgbdekcgmpaaEw
namespace Go.Proofs.Ytlnjgbdekcgmpaa
open Go.RowKit

set_option maxHeartbeats 4000000 in
theorem eNil_walk (id t : Int) (w : World) (_h1 : -9223372036854775808 ≤ id) (_h2 : id ≤ 9223372036854775807) (_h3 : -9223372036854775808 ≤ t) (_h4 : t ≤ 9223372036854775807) :
    Calls Try.prog 4 #[.int .i64 id, .int .i64 t] w fun e w' => e = .returned (.bool true) ∧ Below w.heap.size w w' := by
  clear _h1 _h2 _h3 _h4
  obtain ⟨w1, hw1⟩ : ∃ w1, (w.alloc (.cells #[.pointer none] 44)).alloc (.cells #[.pointer none, .pointer (some ⟨w.heap.size, 0, none⟩)] 24) = w1 := ⟨_, rfl⟩
  have b1 : Bk w1 w.heap.size 44 #[.pointer none] := by rw [← hw1]; exact (Bk.new w _ _).up _
  have b2 : Bk w1 (w.heap.size + 1) 24 #[.pointer none, .pointer (some ⟨w.heap.size, 0, none⟩)] := by
    have := Bk.new (w.alloc (.cells #[.pointer none] 44)) 24 #[.pointer none, .pointer (some ⟨w.heap.size, 0, none⟩)]
    rw [World.size_alloc] at this
    rw [← hw1]; exact this
  have hB : Below w.heap.size w w1 := by rw [← hw1]; exact ((Below.refl _ w).alloc (Nat.le_refl _) _).alloc (by simp) _
  have HF : Hid (∀ W, Below w1.heap.size w1 W → ∀ j, j < 2 → ∃ p, W.cell? ⟨w.heap.size + 1, j, none⟩ = some (.pointer p) ∧ Inv W p) := fun W hW j hj => by
    rcases j with _ | _ | j
    · exact ⟨none, (b2.below hW).cell 0, .inl rfl⟩
    · exact ⟨some ⟨w.heap.size, 0, none⟩, (b2.below hW).cell 1, .inr ⟨_, rfl, b1.below hW⟩⟩
    · omega
  have HB := Lib.hid hB
  clear b1 b2 hB
  go_enter Try.func4, Try.ntmps4
  go_wp2_with (rw [hw1])
  all_goals (try rw [hw1])
  clear hw1
  go_loopw [7] (fun i wr => ∃ j : Nat, j ≤ 2 ∧ i = .int .i64 j ∧ Hid (Below w1.heap.size w1 wr)) (fun i _ => 2 - (intOf i).toNat)
  case atStart => exact ⟨0, by omega, rfl, Below.refl _ _⟩
  case round =>
    obtain ⟨j, hj, rfl, HW⟩ := hrel
    by_cases hlt : j < 2
    · obtain ⟨p, hcell, hi⟩ := HF.out wr HW.out j hlt
      have HI := Lib.hid hi
      clear hi
      go_wp2_with (first
        | (go_at_call 23; refine (next_no _ _ HI.out).mono ?_; rintro e w2 ⟨rfl, hb⟩; have HI := Lib.hid (HI.out.below hb); have HW := Lib.hid (HW.out.trans (hb.mono HW.out.size)); clear hb)
        | (go_at_call 25; refine (when_no _ _ _ HI.out).mono ?_; rintro e w2 ⟨rfl, rfl⟩)
        | (go_at_call 14; refine (set_no _ _ _ _ HI.out).mono ?_; rintro e w2 ⟨rfl, rfl⟩)
        | (go_at_call 16; refine (drop_no _ _ _ HI.out).mono ?_; rintro e w2 ⟨rfl, rfl⟩)
        | (go_at_call 19; refine (due_no _ _ _ HI.out).mono ?_; rintro e w2 ⟨⟨a2, c2, rfl⟩, hb⟩; have HI := Lib.hid (HI.out.below hb); have HW := Lib.hid (HW.out.trans (hb.mono HW.out.size)); clear hb)
        | (go_at_call 27; refine (len_no _ _ HI.out).mono ?_; rintro e w2 ⟨rfl, rfl⟩)
        | (go_at_call 21; refine (copy_no _ _ HI.out).mono ?_; rintro e w2 ⟨rfl, rfl⟩))
      go_roundw
      case rel => exact ⟨j + 1, by omega, by go_num, HW.out⟩
      case measure => simp [intOf]; omega
    · obtain rfl : j = 2 := by omega
      go_wp2_with (go_at_call 11; refine (works_ok _).mono ?_; rintro e w2 ⟨rfl, hb⟩; have HW := Lib.hid (HW.out.trans (hb.mono HW.out.size)); clear hb)
      go_ret
      exact ⟨rfl, HB.out.trans (HW.out.mono HB.out.size)⟩
end Go.Proofs.Ytlnjgbdekcgmpaa
