/- The contracts of the document's Len and New. -/
import Derived.OwnWalk
import Derived.Test.YtfemfgpciogbeaaZf
namespace Go.Proofs.Ytfemfgpciogbeaa
open Go.RowKit

theorem elen_ok (q c d g : Nat) (D : Dk) (w : World) (h : QW w q c d g D) : Calls Try.prog 26 #[.pointer (some ⟨q, 0, none⟩)] w fun e w' => e = .returned (.int .i64 D.t.held.length) ∧ Below w.heap.size w w' := by
  have AL := Lib.hid (eall_ok q c d g D w h)
  obtain ⟨m, hm⟩ : ∃ m, D.all.length = m := ⟨_, rfl⟩
  have hl : D.t.held.length = m := by rw [← Dk.all_len]; exact hm
  have hm64 : m ≤ 256 := by have := Tb.held_len D.t h.ok.t; omega
  have hmz : (m : Int) ≤ 256 := by omega
  rw [hl]
  have HM := Lib.hid hm
  clear h hl hm
  go_enter Try.func26, Try.ntmps26
  go_wp2_with (go_at_call 29; refine AL.out.mono ?_; rintro e w1 ⟨p, c', rfl, _, hb1⟩; rw [HM.out]; have HB := Lib.hid hb1; clear hb1)
  go_ret
  exact ⟨rfl, HB.out⟩

/-! ### New -/
theorem info_i64 : (Try.prog.info? 2).map (fun i => (i.zero, i.size, i.bytes)) = some (some (.int .i64 0), 1, 8) := by kernel_rfl
def lmade (n : Nat) : Array Value := madeCells #[.int .i64 0] n
theorem lmade_size (n : Nat) : (lmade n).size = n := size_madeCells _ _
theorem lmade_at {n i : Nat} (h : i < n) : (lmade n)[i]? = some (.int .i64 0) := by
  have := toList_madeCells_one (.int .i64 0) n
  unfold lmade
  rw [← Array.getElem?_toList, this]; simp [h]
theorem make_l (m : Nat) (hm : m ≤ 64) (W : World) : (Instr.makeSlice 60 (.int .i64 m) (.int .i64 m)).run Try.prog W = .ok (.slice (some ⟨W.heap.size, 0, none⟩) m m) (W.alloc (.cells (lmade m) 2)) := by
  obtain ⟨i0, hi, hz0, hz1, hz2⟩ := info_parts info_i64
  have := run_make (P := Try.prog) W 60 2 i0 _ Try.underlying60 hi hz0 .i64 .i64 m m (by omega) (by omega) (by rw [hz2]; omega) (by omega)
  rw [this, hz1]
  simp [lmade, Value.cells]
/-- A new desk of the document's. -/
def ENew (D : Dk) (w : World) (q : Nat) (w' : World) : Prop := ∃ c d g, QW w' q c d g D ∧ (∀ z, QFt q c d g z → w.heap.size ≤ z) ∧ Below w.heap.size w w'
theorem enew_bad (n f : Int) (w : World) (h : n < 1 ∨ 64 < n ∨ f = 0) : Calls Try.prog 12 #[.int .i64 n, .int .u32 f] w fun e w' => e = .returned (.tuple #[.pointer none, .int .i64 2]) ∧ w = w' := by
  by_cases c : n < 1
  · clear h
    go_enter Try.func12, Try.ntmps12
    go_wp2
    go_ret2
    exact ⟨rfl, rfl⟩
  by_cases c1 : 64 < n
  · clear h
    go_enter Try.func12, Try.ntmps12
    go_wp2
    go_ret2
    exact ⟨rfl, rfl⟩
  obtain rfl : f = 0 := by omega
  have R := Lib.hid (rnew_arg2 n w (by omega) (by omega))
  clear h
  go_enter Try.func12, Try.ntmps12
  go_wp2_with (go_at_call 37; refine R.out.mono ?_; rintro e w' ⟨rfl, rfl⟩)
  go_ret2
  exact ⟨rfl, rfl⟩
set_option maxHeartbeats 1000000 in
theorem enew_ok (n f : Nat) (w : World) (h1 : 1 ≤ n) (h2 : n ≤ 64) (h3 : 1 ≤ f) (h4 : f ≤ 4294967295) : Calls Try.prog 12 #[.int .i64 n, .int .u32 f] w fun e w' => ∃ q, e = .returned (.tuple #[.pointer (some ⟨q, 0, none⟩), .int .i64 0]) ∧ Hid (ENew (dfresh n f) w q w') := by
  have R := Lib.hid (rnew_ok n f w h1 (by omega) h3 h4)
  have hmk := make_l n h2
  have HH := Lib.hid (And.intro h1 (And.intro h2 (And.intro h3 h4)))
  have n1 : (1 : Int) ≤ n := by omega
  have n2 : (n : Int) ≤ 64 := by omega
  clear h1 h2 h3 h4
  go_enter Try.func12, Try.ntmps12
  go_wp2_with (first
    | (go_at_call 37; refine R.out.mono ?_; rintro e w2 ⟨c, d, rfl, k1, k2, k3, k4⟩; have K := Lib.hid (And.intro k1 (And.intro k2 (And.intro k3 k4))); clear k1 k2 k3 k4))
  go_ret2
  obtain ⟨k1, k2, k3, k4⟩ := K.out
  obtain ⟨h1, h2, h3, h4⟩ := HH.out
  refine ⟨_, rfl, c, d, w2.heap.size, ⟨dfresh_ok h1 h2 h3 h4, (k3.below (bal w2 _)).below (bal _ _), n, lmade n, ?_, (Bk.new w2 _ _).up _, lmade_size n, Nat.le_refl _, by unfold maxLen; omega, fun i hi => lmade_at hi⟩, ?_, bel2 (bel2 k4 (bal w2 _)) (bal _ _)⟩
  · have := Bk.new (w2.alloc (.cells (lmade n) 2)) 83 #[.bool true, .pointer (some ⟨c, 0, none⟩), .slice (some ⟨w2.heap.size, 0, none⟩) n n]
    rw [World.size_alloc] at this
    exact this
  · rintro z (rfl | rfl | rfl | rfl)
    · have := k4.size; simp; omega
    · exact k1
    · exact k2
    · exact k4.size
end Go.Proofs.Ytfemfgpciogbeaa
