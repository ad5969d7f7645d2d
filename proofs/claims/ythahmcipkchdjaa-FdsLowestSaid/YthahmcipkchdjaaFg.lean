/- The contracts of the program's Close and Number, whole. -/
import Derived.Test.YthahmcipkchdjaaFf
namespace Go.Proofs.Ythahmcipkchdjaa
open Go.RowKit

theorem bel_two (w : World) (o q : Obj) : Below w.heap.size w ((w.alloc o).alloc q) := bel_alloc ((Below.refl _ w).alloc (Nat.le_refl _) _) _
/-- What Close says of a table, and what it leaves. -/
def CloseP (b k m : Nat) (F : Fb) (x y z : Int) (w : World) (e : Ending) (w' : World) : Prop := e = .returned (.int .i64 (F.chk x y z)) ∧ FW w' b k m (F.closed x y z) ∧ Kept (FFoot b k m) w w'

set_option maxHeartbeats 1000000 in
theorem fclose_inv (p : Option Addr) (x y z : Int) (w : World) (h : FInv w p) : Calls Try.prog 16 #[.pointer p, .agg #[.int .i64 x, .int .i64 y, .int .u32 z]] w fun e w' => e = .returned (.int .i64 1) ∧ Below w.heap.size w w' := by
  have FD : Hid (∀ W fv, Below w.heap.size w W → Calls Try.prog 37 #[.pointer p, .agg #[.int .i64 x, .int .i64 y, .int .u32 z], fv] W fun e w' => e = .returned (.int .i64 1) ∧ Below W.heap.size W w') := fun W fv hW => found_inv p x y z fv W (h.below hW)
  clear h
  go_enter Try.func16, Try.ntmps16
  go_wp2_with (go_at_call 37; refine (FD.out _ _ (bel_two _ _ _)).mono ?_; rintro e w2 ⟨rfl, hb2⟩; have HB := Lib.hid (bel2 (bel_two _ _ _) hb2); clear hb2)
  go_ret
  exact ⟨rfl, HB.out⟩
set_option maxHeartbeats 1000000 in
theorem fnumber_inv (p : Option Addr) (x y z : Int) (w : World) (h : FInv w p) : Calls Try.prog 27 #[.pointer p, .agg #[.int .i64 x, .int .i64 y, .int .u32 z]] w fun e w' => e = .returned (.tuple #[.int .i64 0, .int .i64 1]) ∧ Below w.heap.size w w' := by
  have FD : Hid (∀ W fv, Below w.heap.size w W → Calls Try.prog 37 #[.pointer p, .agg #[.int .i64 x, .int .i64 y, .int .u32 z], fv] W fun e w' => e = .returned (.int .i64 1) ∧ Below W.heap.size W w') := fun W fv hW => found_inv p x y z fv W (h.below hW)
  clear h
  go_enter Try.func27, Try.ntmps27
  go_wp2_with (go_at_call 37; refine (FD.out _ _ (bel_alloc (bel_two _ _ _) _)).mono ?_; rintro e w2 ⟨rfl, hb2⟩; have HB := Lib.hid (bel2 (bel_alloc (bel_two _ _ _) _) hb2); have hq := (bcell hb2).1 (w.heap.size + 1 + 1) 0 (by simp); clear hb2)
  go_ret2
  exact ⟨rfl, HB.out⟩
/-- Where a resource is no open file, found says why. -/
theorem found_no (b k m : Nat) (F : Fb) (x y z : Int) (hr : RgO x y z) (h0 : F.chk x y z ≠ 0) (fv : Value) (w : World) (h : FW w b k m F) : Calls Try.prog 37 #[.pointer (some ⟨b, 0, none⟩), .agg #[.int .i64 x, .int .i64 y, .int .u32 z], fv] w fun e w' => e = .returned (.int .i64 (F.chk x y z)) ∧ Below w.heap.size w w' := by
  rcases F.chk_cases x y z with ⟨h1, h2⟩ | ⟨h1, h2⟩
  · rw [h2]; exact found_bad b k m F x y z hr h1 fv w h
  · rw [h2] at h0 ⊢
    obtain rfl := h1.1
    exact found_stale b k m F y z _ hr h1 rfl h0 fv w h
set_option maxHeartbeats 1000000 in
theorem fclose_no (b k m : Nat) (F : Fb) (x y z : Int) (hr : RgO x y z) (h0 : F.chk x y z ≠ 0) (w : World) (h : FW w b k m F) : Calls Try.prog 16 #[.pointer (some ⟨b, 0, none⟩), .agg #[.int .i64 x, .int .i64 y, .int .u32 z]] w fun e w' => e = .returned (.int .i64 (F.chk x y z)) ∧ Below w.heap.size w w' := by
  have FD : Hid (∀ W fv, Below w.heap.size w W → Calls Try.prog 37 #[.pointer (some ⟨b, 0, none⟩), .agg #[.int .i64 x, .int .i64 y, .int .u32 z], fv] W fun e w' => e = .returned (.int .i64 (F.chk x y z)) ∧ Below W.heap.size W w') := fun W fv hW => found_no b k m F x y z hr h0 fv W (h.below hW)
  generalize F.chk x y z = E at *
  clear h hr h0
  go_enter Try.func16, Try.ntmps16
  go_wp2_with (go_at_call 37; refine (FD.out _ _ (bel_two _ _ _)).mono ?_; rintro e w2 ⟨rfl, hb2⟩; have HB := Lib.hid (bel2 (bel_two _ _ _) hb2); clear hb2)
  go_ret
  exact ⟨rfl, HB.out⟩
set_option maxHeartbeats 1000000 in
theorem fnumber_no (b k m : Nat) (F : Fb) (x y z : Int) (hr : RgO x y z) (h0 : F.chk x y z ≠ 0) (w : World) (h : FW w b k m F) : Calls Try.prog 27 #[.pointer (some ⟨b, 0, none⟩), .agg #[.int .i64 x, .int .i64 y, .int .u32 z]] w fun e w' => e = .returned (.tuple #[.int .i64 0, .int .i64 (F.chk x y z)]) ∧ Below w.heap.size w w' := by
  have FD : Hid (∀ W fv, Below w.heap.size w W → Calls Try.prog 37 #[.pointer (some ⟨b, 0, none⟩), .agg #[.int .i64 x, .int .i64 y, .int .u32 z], fv] W fun e w' => e = .returned (.int .i64 (F.chk x y z)) ∧ Below W.heap.size W w') := fun W fv hW => found_no b k m F x y z hr h0 fv W (h.below hW)
  generalize F.chk x y z = E at *
  clear h hr h0
  go_enter Try.func27, Try.ntmps27
  go_wp2_with (go_at_call 37; refine (FD.out _ _ (bel_alloc (bel_two _ _ _) _)).mono ?_; rintro e w2 ⟨rfl, hb2⟩; have HB := Lib.hid (bel2 (bel_alloc (bel_two _ _ _) _) hb2); have hq := (bcell hb2).1 (w.heap.size + 1 + 1) 0 (by simp); clear hb2)
  go_ret2
  exact ⟨rfl, HB.out⟩
theorem bk_two (w : World) (t s : TypeId) (cs ds : Array Value) : Bk ((w.alloc (.cells cs t)).alloc (.cells ds s)) w.heap.size t cs ∧ Bk ((w.alloc (.cells cs t)).alloc (.cells ds s)) (w.heap.size + 1) s ds := by
  have h2 := Bk.new (w.alloc (.cells cs t)) s ds
  rw [World.size_alloc] at h2
  exact ⟨(Bk.new w t cs).up _, h2⟩
set_option maxHeartbeats 1000000 in
theorem fclose_yes (b k m i : Nat) (F : Fb) (w : World) (h : FW w b k m F) (hi : i < F.t.n) (hs : F.t.s i = 1) : Calls Try.prog 16 #[.pointer (some ⟨b, 0, none⟩), .agg #[.int .i64 1, .int .i64 i, .int .u32 (F.t.g i)]] w fun e w' => e = .returned (.int .i64 0) ∧ FW w' b k m (F.close i) ∧ Kept (FFoot b k m) w w' := by
  have hW := bel_two w (.cells #[.pointer (some ⟨b, 0, none⟩)] 27) (.cells #[.int .i64 1, .int .i64 i, .int .u32 (F.t.g i)] 25)
  have hb := bk_two w 27 25 #[.pointer (some ⟨b, 0, none⟩)] #[.int .i64 1, .int .i64 i, .int .u32 (F.t.g i)]
  have FD := Lib.hid (found_close w.heap.size (w.heap.size + 1) b k m i F _ (h.below hW) hi hs hb.1 hb.2)
  have HW := Lib.hid hW
  generalize F.t.g i = z at *
  clear h hi hs hW hb
  go_enter Try.func16, Try.ntmps16
  go_wp2_with (go_at_call 37; refine FD.out.mono ?_; rintro e w2 ⟨rfl, HF⟩)
  go_ret
  exact ⟨rfl, HF.out.1, (Kept.of_below HW.out).trans HF.out.2⟩
theorem fclose_ok (b k m : Nat) (F : Fb) (x y z : Int) (hr : RgO x y z) (w : World) (h : FW w b k m F) : Calls Try.prog 16 #[.pointer (some ⟨b, 0, none⟩), .agg #[.int .i64 x, .int .i64 y, .int .u32 z]] w (CloseP b k m F x y z w) := by
  by_cases h0 : F.chk x y z = 0
  · obtain rfl := (Fb.chk_open h0).1
    obtain ⟨i, rfl, hi, hs, rfl, _⟩ := Fb.chk_is h.ok h0
    refine (fclose_yes b k m i F w h hi hs).mono ?_
    rintro e w' ⟨rfl, h1, h2⟩
    refine ⟨by rw [h0], ?_, h2⟩
    unfold Fb.closed
    rw [if_pos h0]; exact h1
  · refine (fclose_no b k m F x y z hr h0 w h).mono ?_
    rintro e w' ⟨rfl, hb⟩
    refine ⟨rfl, ?_, Kept.of_below hb⟩
    unfold Fb.closed
    rw [if_neg h0]; exact h.below hb
set_option maxHeartbeats 1000000 in
theorem fnumber_yes (b k m i : Nat) (F : Fb) (w : World) (h : FW w b k m F) (hi : i < F.t.n) (hs : F.t.s i = 1) : Calls Try.prog 27 #[.pointer (some ⟨b, 0, none⟩), .agg #[.int .i64 1, .int .i64 i, .int .u32 (F.t.g i)]] w fun e w' => e = .returned (.tuple #[.int .i64 (F.num i), .int .i64 0]) ∧ Below w.heap.size w w' := by
  have hW := bel_alloc (bel_two w (.cells #[.pointer (some ⟨b, 0, none⟩)] 27) (.cells #[.int .i64 1, .int .i64 i, .int .u32 (F.t.g i)] 25)) (.cells #[.int .i64 0] 3)
  have hb := bk_two w 27 25 #[.pointer (some ⟨b, 0, none⟩)] #[.int .i64 1, .int .i64 i, .int .u32 (F.t.g i)]
  have hd := Bk.new ((w.alloc (.cells #[.pointer (some ⟨b, 0, none⟩)] 27)).alloc (.cells #[.int .i64 1, .int .i64 i, .int .u32 (F.t.g i)] 25)) 3 #[.int .i64 0]
  rw [World.size_alloc, World.size_alloc] at hd
  have FD := Lib.hid (found_number w.heap.size (w.heap.size + 1) (w.heap.size + 1 + 1) b k m i F _ (h.below hW) hi hs (hb.1.up _) (hb.2.up _) hd)
  have HW := Lib.hid hW
  generalize F.t.g i = z at *
  generalize F.num i = q at *
  clear h hi hs hW hb hd
  go_enter Try.func27, Try.ntmps27
  go_wp2_with (go_at_call 37; refine FD.out.mono ?_; rintro e w2 ⟨rfl, HF⟩; have hq : w2.cell? ⟨w.heap.size + 1 + 1, 0, none⟩ = some (.int .i64 q) := HF.out.1.cell 0)
  go_ret2
  exact ⟨rfl, HW.out.trans (HF.out.2.below (by have := HW.out.size; exact this) (by rintro g rfl; omega))⟩
theorem fnumber_ok (b k m : Nat) (F : Fb) (x y z : Int) (hr : RgO x y z) (w : World) (h : FW w b k m F) : Calls Try.prog 27 #[.pointer (some ⟨b, 0, none⟩), .agg #[.int .i64 x, .int .i64 y, .int .u32 z]] w fun e w' => e = .returned (.tuple #[.int .i64 (F.number x y z), .int .i64 (F.chk x y z)]) ∧ Below w.heap.size w w' := by
  unfold Fb.number
  by_cases h0 : F.chk x y z = 0
  · obtain rfl := (Fb.chk_open h0).1
    obtain ⟨i, rfl, hi, hs, rfl, _⟩ := Fb.chk_is h.ok h0
    rw [Fb.look_open h0, h0]
    exact fnumber_yes b k m i F w h hi hs
  · rw [Fb.look_none h0]
    exact fnumber_no b k m F x y z hr h0 w h
end Go.Proofs.Ythahmcipkchdjaa
