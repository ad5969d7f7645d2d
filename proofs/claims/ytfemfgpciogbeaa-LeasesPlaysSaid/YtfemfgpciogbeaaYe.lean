/- The contracts of the program's Renew, Return, Until, Over, whole. -/
import Derived.Test.YtfemfgpciogbeaaYd
import Derived.StillTailTactics
namespace Go.Proofs.Ytfemfgpciogbeaa
open Go.RowKit

theorem bk_two (w : World) (t s : TypeId) (cs ds : Array Value) : Bk ((w.alloc (.cells cs t)).alloc (.cells ds s)) w.heap.size t cs ∧ Bk ((w.alloc (.cells cs t)).alloc (.cells ds s)) (w.heap.size + 1) s ds := by
  have h2 := Bk.new (w.alloc (.cells cs t)) s ds
  rw [World.size_alloc] at h2
  exact ⟨(Bk.new w t cs).up _, h2⟩
theorem bk_three (w : World) (t s r : TypeId) (cs ds es : Array Value) {w3 : World} (h : ((w.alloc (.cells cs t)).alloc (.cells ds s)).alloc (.cells es r) = w3) : Bk w3 w.heap.size t cs ∧ Bk w3 (w.heap.size + 1) s ds ∧ Bk w3 (w.heap.size + 1 + 1) r es ∧ w3.heap.size = w.heap.size + 1 + 1 + 1 ∧ Below w.heap.size w w3 := by
  subst h
  have h2 := bk_two w t s cs ds
  have h3 := Bk.new ((w.alloc (.cells cs t)).alloc (.cells ds s)) r es
  rw [World.size_alloc, World.size_alloc] at h3
  exact ⟨h2.1.up _, h2.2.up _, h3, by simp, bel_alloc (bel_two w _ _) _⟩
theorem bk_four (w : World) (t s r q : TypeId) (cs ds es fs : Array Value) {w4 : World} (h : (((w.alloc (.cells cs t)).alloc (.cells ds s)).alloc (.cells es r)).alloc (.cells fs q) = w4) : Bk w4 w.heap.size t cs ∧ Bk w4 (w.heap.size + 1) s ds ∧ Bk w4 (w.heap.size + 1 + 1) r es ∧ Bk w4 (w.heap.size + 1 + 1 + 1) q fs ∧ w4.heap.size = w.heap.size + 1 + 1 + 1 + 1 ∧ Below w.heap.size w w4 := by
  subst h
  obtain ⟨h1, h2, h3, h4, h5⟩ := bk_three w t s r cs ds es rfl
  have h6 := Bk.new (((w.alloc (.cells cs t)).alloc (.cells ds s)).alloc (.cells es r)) q fs
  rw [h4] at h6
  exact ⟨h1.up _, h2.up _, h3.up _, h6, by rw [World.size_alloc, h4], bel_alloc h5 _⟩

/-! ### Return -/
set_option maxHeartbeats 1000000 in
theorem return_of (p : Option Addr) (x y z E : Int) (Q : World → Prop) (w : World)
    (FD : ∀ W, Below w.heap.size w W → Bk W w.heap.size 25 #[.pointer p] → Calls Try.prog 47 #[.pointer p, .agg #[.int .i64 x, .int .i64 y, .int .u32 z], .bool true, .func (.func 51) #[] #[.pointer (some ⟨w.heap.size, 0, none⟩)]] W fun e w' => e = .returned (.int .i64 E) ∧ Hid (Q w')) :
    Calls Try.prog 17 #[.pointer p, .agg #[.int .i64 x, .int .i64 y, .int .u32 z]] w fun e w' => e = .returned (.int .i64 E) ∧ Hid (Q w') := by
  have h2 := bk_two w 25 33 #[.pointer p] #[.int .i64 x, .int .i64 y, .int .u32 z]
  have F := Lib.hid (FD _ (bel_two w (.cells #[.pointer p] 25) (.cells #[.int .i64 x, .int .i64 y, .int .u32 z] 33)) h2.1)
  clear FD h2
  go_enter Try.func17, Try.ntmps17
  go_wp2_with (go_at_call 47; refine F.out.mono ?_; rintro e w2 ⟨rfl, HF⟩)
  go_ret
  exact ⟨rfl, HF⟩
/-- What Return says of a desk, and what it leaves. -/
def RetV (b k a : Nat) (_D U : Dk) (E : Int) (w : World) (e : Ending) (w' : World) : Prop := e = .returned (.int .i64 E) ∧ DkW w' b k a U ∧ Kept (DFoot b k a) w w'
theorem dret_inv (p : Option Addr) (x y z : Int) (w : World) (h : DInv w p) : Calls Try.prog 17 #[.pointer p, .agg #[.int .i64 x, .int .i64 y, .int .u32 z]] w fun e w' => e = .returned (.int .i64 1) ∧ Below w.heap.size w w' :=
  (return_of p x y z 1 (fun w' => Below w.heap.size w w') w fun W hW _ => (found_inv p x y z true _ W (h.below hW)).mono fun _ _ ⟨h1, h2⟩ => ⟨h1, bel2 hW h2⟩).mono fun _ _ ⟨h1, h2⟩ => ⟨h1, h2.out⟩
theorem dret_ok (b k a : Nat) (D : Dk) (x y z : Int) (hr : RgO x y z) (w : World) (h : DkW w b k a D) : Calls Try.prog 17 #[.pointer (some ⟨b, 0, none⟩), .agg #[.int .i64 x, .int .i64 y, .int .u32 z]] w (RetV b k a D (D.ret x y z) (D.chk x y z) w) := by
  by_cases h0 : D.chk x y z = 0
  · obtain ⟨rfl, i, rfl, hi, hs, rfl⟩ := Dk.chk_is h0
    have e1 : D.ret 3 i (D.t.g i) = D.give i := by unfold Dk.ret; rw [if_pos h0, Int.toNat_natCast]
    rw [h0, e1]
    refine (return_of (some ⟨b, 0, none⟩) 3 i (D.t.g i) 0 (fun w' => DkW w' b k a (D.give i) ∧ Kept (DFoot b k a) w w') w fun W hW hB => ?_).mono fun _ _ ⟨h1, h2⟩ => ⟨h1, h2.out.1, h2.out.2⟩
    refine found_return _ b k a i D 0 _ W (h.below hW) hi hs fun W' hW' => ?_
    refine (return1_ok _ b k a i D W' ((h.below hW).below hW') hi hs (hB.below hW')).mono fun _ _ ⟨h1, h2⟩ => ⟨h1, h2.out.1, (Kept.of_below (bel2 hW hW')).trans h2.out.2⟩
  · have e1 : D.ret x y z = D := by unfold Dk.ret; rw [if_neg h0]
    rw [e1]
    refine (return_of (some ⟨b, 0, none⟩) x y z (D.chk x y z) (fun w' => Below w.heap.size w w') w fun W hW _ => ?_).mono fun _ _ ⟨h1, h2⟩ => ⟨h1, h.below h2.out, Kept.of_below h2.out⟩
    exact (found_no b k a D x y z hr h0 _ W (h.below hW)).mono fun _ _ ⟨h1, h2⟩ => ⟨h1, bel2 hW h2⟩

/-! ### Until -/
set_option maxHeartbeats 1000000 in
theorem until_of (p : Option Addr) (x y z E n : Int) (w : World)
    (FD : ∀ W, Below w.heap.size w W → Bk W w.heap.size 25 #[.pointer p] → Bk W (w.heap.size + 1 + 1) 2 #[.int .i64 0] → Calls Try.prog 47 #[.pointer p, .agg #[.int .i64 x, .int .i64 y, .int .u32 z], .bool true, .func (.func 54) #[] #[.pointer (some ⟨w.heap.size, 0, none⟩), .pointer (some ⟨w.heap.size + 1 + 1, 0, none⟩)]] W fun e w' => e = .returned (.int .i64 E) ∧ Hid (Bk w' (w.heap.size + 1 + 1) 2 #[.int .i64 n] ∧ Below w.heap.size w w')) :
    Calls Try.prog 19 #[.pointer p, .agg #[.int .i64 x, .int .i64 y, .int .u32 z]] w fun e w' => e = .returned (.tuple #[.int .i64 n, .int .i64 E]) ∧ Below w.heap.size w w' := by
  obtain ⟨h1, h2, h3, h4, h5⟩ := bk_three w 25 33 2 #[.pointer p] #[.int .i64 x, .int .i64 y, .int .u32 z] #[.int .i64 0] rfl
  have F := Lib.hid (FD _ h5 h1 h3)
  clear FD h1 h2 h3 h4 h5
  go_enter Try.func19, Try.ntmps19
  go_wp2_with (go_at_call 47; refine F.out.mono ?_; rintro e w2 ⟨rfl, HF⟩; have hq := one_cell HF.out.1)
  go_ret2
  exact ⟨rfl, HF.out.2⟩
theorem duntil_inv (p : Option Addr) (x y z : Int) (w : World) (h : DInv w p) : Calls Try.prog 19 #[.pointer p, .agg #[.int .i64 x, .int .i64 y, .int .u32 z]] w fun e w' => e = .returned (.tuple #[.int .i64 0, .int .i64 1]) ∧ Below w.heap.size w w' :=
  until_of p x y z 1 0 w fun W hW _ hU => (found_inv p x y z true _ W (h.below hW)).mono fun _ _ ⟨h1, h2⟩ => ⟨h1, hU.below h2, bel2 hW h2⟩
theorem duntil_ok (b k a : Nat) (D : Dk) (x y z : Int) (hr : RgO x y z) (w : World) (h : DkW w b k a D) : Calls Try.prog 19 #[.pointer (some ⟨b, 0, none⟩), .agg #[.int .i64 x, .int .i64 y, .int .u32 z]] w fun e w' => e = .returned (.tuple #[.int .i64 (D.til x y z), .int .i64 (D.chk x y z)]) ∧ Below w.heap.size w w' := by
  by_cases h0 : D.chk x y z = 0
  · obtain ⟨rfl, i, rfl, hi, hs, rfl⟩ := Dk.chk_is h0
    have e1 : D.til 3 i (D.t.g i) = D.u i := by unfold Dk.til; rw [if_pos h0, Int.toNat_natCast]
    rw [h0, e1]
    refine until_of (some ⟨b, 0, none⟩) 3 i (D.t.g i) 0 (D.u i) w fun W hW hB hU => ?_
    refine found_until _ _ b k a i D 0 _ W (h.below hW) hi hs fun W' hW' => ?_
    refine (until1_ok _ (w.heap.size + 1 + 1) b k a i _ D W' ((h.below hW).below hW') (by have := h.ok.hi; omega) (hB.below hW') (hU.below hW')).mono fun _ _ ⟨h1, h2⟩ => ⟨h1, h2.out.1, ?_⟩
    exact (bel2 hW hW').trans (h2.out.2.below (bel2 hW hW').size (by rintro g rfl; omega))
  · have e1 : D.til x y z = 0 := if_neg h0
    rw [e1]
    refine until_of (some ⟨b, 0, none⟩) x y z (D.chk x y z) 0 w fun W hW _ hU => ?_
    exact (found_no b k a D x y z hr h0 _ W (h.below hW)).mono fun _ _ ⟨h1, h2⟩ => ⟨h1, hU.below h2, bel2 hW h2⟩

/-! ### Over -/
set_option maxRecDepth 100000 in
set_option maxHeartbeats 2000000 in
theorem over_of (p : Option Addr) (x y z now E : Int) (r v : Bool) (w : World) (hr : decide (IsTime now) = r)
    (FD : ∀ W, Below w.heap.size w W → Bk W w.heap.size 25 #[.pointer p] → Bk W (w.heap.size + 1 + 1) 2 #[.int .i64 now] → Bk W (w.heap.size + 1 + 1 + 1) 4 #[.bool false] → Calls Try.prog 47 #[.pointer p, .agg #[.int .i64 x, .int .i64 y, .int .u32 z], .bool r, .func (.func 55) #[] #[.pointer (some ⟨w.heap.size, 0, none⟩), .pointer (some ⟨w.heap.size + 1 + 1, 0, none⟩), .pointer (some ⟨w.heap.size + 1 + 1 + 1, 0, none⟩)]] W fun e w' => e = .returned (.int .i64 E) ∧ Hid (Bk w' (w.heap.size + 1 + 1 + 1) 4 #[.bool v] ∧ Below w.heap.size w w')) :
    Calls Try.prog 21 #[.pointer p, .agg #[.int .i64 x, .int .i64 y, .int .u32 z], .int .i64 now] w fun e w' => e = .returned (.tuple #[.bool v, .int .i64 E]) ∧ Below w.heap.size w w' := by
  obtain ⟨w4, hw4⟩ : ∃ w4, (((w.alloc (.cells #[.pointer p] 25)).alloc (.cells #[.int .i64 x, .int .i64 y, .int .u32 z] 33)).alloc (.cells #[.int .i64 now] 2)).alloc (.cells #[.bool false] 4) = w4 := ⟨_, rfl⟩
  obtain ⟨h1, h2, h3, h4, h5, h6⟩ := bk_four w _ _ _ _ _ _ _ _ hw4
  have F : Hid (∀ W, Below w4.heap.size w4 W → Calls Try.prog 47 #[.pointer p, .agg #[.int .i64 x, .int .i64 y, .int .u32 z], .bool r, .func (.func 55) #[] #[.pointer (some ⟨w.heap.size, 0, none⟩), .pointer (some ⟨w.heap.size + 1 + 1, 0, none⟩), .pointer (some ⟨w.heap.size + 1 + 1 + 1, 0, none⟩)]] W fun e w' => e = .returned (.int .i64 E) ∧ Hid (Bk w' (w.heap.size + 1 + 1 + 1) 4 #[.bool v] ∧ Below w.heap.size w w')) := fun W hW => FD W (bel2 h6 hW) (h1.below hW) (h3.below hW) (h4.below hW)
  have c0 := one_cell h1
  have c2 := one_cell h3
  have o0 := h2.cell 0
  have o1 := h2.cell 1
  have o2 := h2.cell 2
  simp only [List.getElem?_toArray, List.getElem?_cons_zero, List.getElem?_cons_succ] at o0 o1 o2
  have B4 : Hid (Below w4.heap.size w4 w4.drew) := bel_drew (Below.refl _ _)
  have HW4 := Lib.hid hw4
  have TM : Hid (Calls Try.prog 40 #[.int .i64 now] w4.drew fun e w' => e = .returned (.bool r) ∧ w' = w4.drew) := (time_is now r _ hr).mono fun _ _ h => ⟨h.1, h.2.symm⟩
  clear FD h1 h2 h3 h4 h5 h6 hw4 hr
  go_enter Try.func21, Try.ntmps21
  go_wp2
  rw [HW4.out]
  go_still_tail 5, (by kernel_rfl)
  still_call TM.out
  repeat still_step
  refine wpStill_nil ?_
  go_wp2_with (go_at_call 47; refine (F.out _ B4.out).mono ?_; rintro e w2 ⟨rfl, HF⟩; have hq := one_cell HF.out.1)
  go_ret2
  exact ⟨rfl, HF.out.2⟩
theorem dover_inv (p : Option Addr) (x y z now : Int) (w : World) (h : DInv w p) : Calls Try.prog 21 #[.pointer p, .agg #[.int .i64 x, .int .i64 y, .int .u32 z], .int .i64 now] w fun e w' => e = .returned (.tuple #[.bool false, .int .i64 1]) ∧ Below w.heap.size w w' :=
  over_of p x y z now 1 _ false w rfl fun W hW _ _ hO => (found_inv p x y z _ _ W (h.below hW)).mono fun _ _ ⟨h1, h2⟩ => ⟨h1, hO.below h2, bel2 hW h2⟩
theorem Dk.ovr_no {D : Dk} {k i g now : Int} (h : D.oE k i g now ≠ 0) : D.ovr k i g now = false := if_neg h
theorem dover_ok (b k a : Nat) (D : Dk) (x y z now : Int) (hr : RgO x y z) (w : World) (h : DkW w b k a D) : Calls Try.prog 21 #[.pointer (some ⟨b, 0, none⟩), .agg #[.int .i64 x, .int .i64 y, .int .u32 z], .int .i64 now] w fun e w' => e = .returned (.tuple #[.bool (D.ovr x y z now), .int .i64 (D.oE x y z now)]) ∧ Below w.heap.size w w' := by
  by_cases ht : IsTime now
  · have e0 : D.oE x y z now = D.chk x y z := if_pos ht
    by_cases h0 : D.chk x y z = 0
    · have e3 : D.ovr x y z now = decide ((D.u y.toNat : Int) ≤ now) := by unfold Dk.ovr; rw [e0, if_pos h0]
      rw [e0, e3, h0]
      obtain ⟨rfl, i, rfl, hi, hs, rfl⟩ := Dk.chk_is h0
      rw [Int.toNat_natCast]
      refine over_of (some ⟨b, 0, none⟩) 3 i (D.t.g i) now 0 true _ w (by simpa using ht) fun W hW hB hN hO => ?_
      refine found_over _ _ _ b k a i D 0 _ W (h.below hW) hi hs fun W' hW' => ?_
      refine (over1_ok _ _ (w.heap.size + 1 + 1 + 1) b k a i _ now D _ W' ((h.below hW).below hW') (by have := h.ok.hi; omega) (hB.below hW') (hN.below hW') (hO.below hW') rfl).mono fun _ _ ⟨h1, h2⟩ => ⟨h1, h2.out.1, ?_⟩
      exact (bel2 hW hW').trans (h2.out.2.below (bel2 hW hW').size (by rintro g rfl; omega))
    · have e3 : D.ovr x y z now = false := Dk.ovr_no (by rw [e0]; exact h0)
      rw [e0, e3]
      refine over_of (some ⟨b, 0, none⟩) x y z now (D.chk x y z) true false w (by simpa using ht) fun W hW _ _ hO => ?_
      exact (found_no b k a D x y z hr h0 _ W (h.below hW)).mono fun _ _ ⟨h1, h2⟩ => ⟨h1, hO.below h2, bel2 hW h2⟩
  · have e0 : D.oE x y z now = 2 := if_neg ht
    have e3 : D.ovr x y z now = false := Dk.ovr_no (by omega)
    rw [e0, e3]
    refine over_of (some ⟨b, 0, none⟩) x y z now 2 false false w (by simpa using ht) fun W hW _ _ hO => ?_
    exact (found_not b k x y z hr _ W (h.below hW).c0).mono fun _ _ ⟨h1, h2⟩ => ⟨h1, hO.below h2, bel2 hW h2⟩

/-! ### Renew -/
set_option maxRecDepth 100000 in
set_option maxHeartbeats 4000000 in
theorem renew_of (p : Option Addr) (x y z t now E : Int) (Q : World → Prop) (b1 b2 r : Bool) (w : World) (hb1 : decide (IsSpan t) = b1) (hb2 : decide (IsTime now) = b2) (hr : (b1 && b2) = r)
    (FD : ∀ W, Below w.heap.size w W → Bk W w.heap.size 25 #[.pointer p] → Bk W (w.heap.size + 1 + 1) 2 #[.int .i64 t] → Bk W (w.heap.size + 1 + 1 + 1) 2 #[.int .i64 now] → Calls Try.prog 47 #[.pointer p, .agg #[.int .i64 x, .int .i64 y, .int .u32 z], .bool r, .func (.func 48) #[] #[.pointer (some ⟨w.heap.size, 0, none⟩), .pointer (some ⟨w.heap.size + 1 + 1 + 1, 0, none⟩), .pointer (some ⟨w.heap.size + 1 + 1, 0, none⟩)]] W fun e w' => e = .returned (.int .i64 E) ∧ Hid (Q w')) :
    Calls Try.prog 15 #[.pointer p, .agg #[.int .i64 x, .int .i64 y, .int .u32 z], .int .i64 t, .int .i64 now] w fun e w' => e = .returned (.int .i64 E) ∧ Hid (Q w') := by
  obtain ⟨w4, hw4⟩ : ∃ w4, (((w.alloc (.cells #[.pointer p] 25)).alloc (.cells #[.int .i64 x, .int .i64 y, .int .u32 z] 33)).alloc (.cells #[.int .i64 t] 2)).alloc (.cells #[.int .i64 now] 2) = w4 := ⟨_, rfl⟩
  obtain ⟨h1, h2, h3, h4, h5, h6⟩ := bk_four w _ _ _ _ _ _ _ _ hw4
  have F : Hid (∀ W, Below w4.heap.size w4 W → Calls Try.prog 47 #[.pointer p, .agg #[.int .i64 x, .int .i64 y, .int .u32 z], .bool r, .func (.func 48) #[] #[.pointer (some ⟨w.heap.size, 0, none⟩), .pointer (some ⟨w.heap.size + 1 + 1 + 1, 0, none⟩), .pointer (some ⟨w.heap.size + 1 + 1, 0, none⟩)]] W fun e w' => e = .returned (.int .i64 E) ∧ Hid (Q w')) := fun W hW => FD W (bel2 h6 hW) (h1.below hW) (h3.below hW) (h4.below hW)
  have c0 := one_cell h1
  have c2 := one_cell h3
  have c3 := one_cell h4
  have o0 := h2.cell 0
  have o1 := h2.cell 1
  have o2 := h2.cell 2
  simp only [List.getElem?_toArray, List.getElem?_cons_zero, List.getElem?_cons_succ] at o0 o1 o2
  have B4 : Hid (Below w4.heap.size w4 w4.drew) := bel_drew (Below.refl _ _)
  have HW4 := Lib.hid hw4
  have SP : Hid (Calls Try.prog 39 #[.int .i64 t] w4.drew fun e w' => e = .returned (.bool b1) ∧ w' = w4.drew) := (span_is t b1 _ hb1).mono fun _ _ h => ⟨h.1, h.2.symm⟩
  have TM : Hid (Calls Try.prog 40 #[.int .i64 now] w4.drew fun e w' => e = .returned (.bool b2) ∧ w' = w4.drew) := (time_is now b2 _ hb2).mono fun _ _ h => ⟨h.1, h.2.symm⟩
  clear FD h1 h2 h3 h4 h5 h6 hw4 hb1 hb2
  cases b1 with
  | true =>
    have hr2 : b2 = r := by simpa using hr
    subst hr2
    clear hr
    go_enter Try.func15, Try.ntmps15
    go_wp2
    rw [HW4.out]
    go_still_tail 9, (by kernel_rfl)
    still_call SP.out
    repeat still_step
    still_call TM.out
    repeat still_step
    refine wpStill_nil ?_
    go_wp2_with (go_at_call 47; refine (F.out _ B4.out).mono ?_; rintro e w2 ⟨rfl, HF⟩)
    go_ret
    exact ⟨rfl, HF⟩
  | false =>
    have hr2 : false = r := by simpa using hr
    subst hr2
    clear hr TM
    go_enter Try.func15, Try.ntmps15
    go_wp2
    rw [HW4.out]
    go_still_tail 9, (by kernel_rfl)
    still_call SP.out
    repeat still_step
    refine wpStill_nil ?_
    go_wp2_with (go_at_call 47; refine (F.out _ B4.out).mono ?_; rintro e w2 ⟨rfl, HF⟩)
    go_ret
    exact ⟨rfl, HF⟩
theorem drenew_inv (p : Option Addr) (x y z t now : Int) (w : World) (h : DInv w p) : Calls Try.prog 15 #[.pointer p, .agg #[.int .i64 x, .int .i64 y, .int .u32 z], .int .i64 t, .int .i64 now] w fun e w' => e = .returned (.int .i64 1) ∧ Below w.heap.size w w' :=
  (renew_of p x y z t now 1 (fun w' => Below w.heap.size w w') _ _ _ w rfl rfl rfl fun W hW _ _ _ => (found_inv p x y z _ _ W (h.below hW)).mono fun _ _ ⟨h1, h2⟩ => ⟨h1, bel2 hW h2⟩).mono fun _ _ ⟨h1, h2⟩ => ⟨h1, h2.out⟩
theorem drenew_ok (b k a : Nat) (D : Dk) (x y z t now : Int) (hr : RgO x y z) (w : World) (h : DkW w b k a D) : Calls Try.prog 15 #[.pointer (some ⟨b, 0, none⟩), .agg #[.int .i64 x, .int .i64 y, .int .u32 z], .int .i64 t, .int .i64 now] w (RetV b k a D (D.renew x y z t now) (D.rE x y z t now) w) := by
  by_cases ha : IsSpan t ∧ IsTime now
  · by_cases h0 : D.chk x y z = 0
    · have hE := Dk.rE_held ha.1 ha.2 h0
      obtain ⟨rfl, i, rfl, hi, hs, rfl⟩ := Dk.chk_is h0
      rw [Int.toNat_natCast] at hE
      have hi64 : i < 64 := by have := h.ok.hi; omega
      have key : ∀ (E : Int) (U : Dk), (∀ W, Below w.heap.size w W → Bk W w.heap.size 25 #[.pointer (some ⟨b, 0, none⟩)] → Bk W (w.heap.size + 1 + 1) 2 #[.int .i64 t] → Bk W (w.heap.size + 1 + 1 + 1) 2 #[.int .i64 now] → Calls Try.prog 48 #[.agg #[.int .i64 i, .int .u32 (D.t.g i)], .pointer (some ⟨w.heap.size, 0, none⟩), .pointer (some ⟨w.heap.size + 1 + 1 + 1, 0, none⟩), .pointer (some ⟨w.heap.size + 1 + 1, 0, none⟩)] W fun e w' => e = .returned (.int .i64 E) ∧ Hid (Rn1 b k a U W w')) →
          Calls Try.prog 15 #[.pointer (some ⟨b, 0, none⟩), .agg #[.int .i64 3, .int .i64 i, .int .u32 (D.t.g i)], .int .i64 t, .int .i64 now] w (RetV b k a D U E w) := fun E U hc => by
        refine (renew_of (some ⟨b, 0, none⟩) 3 i (D.t.g i) t now E (Rn1 b k a U w) true true true w (by simpa using ha.1) (by simpa using ha.2) rfl fun W hW hB hT hN => ?_).mono fun _ _ ⟨h1, h2⟩ => ⟨h1, h2.out.1, h2.out.2⟩
        refine found_renew _ _ _ b k a i D E _ W (h.below hW) hi hs fun W' hW' => ?_
        exact (hc W' (bel2 hW hW') (hB.below hW') (hT.below hW') (hN.below hW')).mono fun _ _ ⟨h1, h2⟩ => ⟨h1, h2.out.1, (Kept.of_below (bel2 hW hW')).trans h2.out.2⟩
      by_cases c1 : (D.u i : Int) ≤ now
      · rw [if_pos c1] at hE
        rw [hE, Dk.renew_ne (by omega)]
        exact key 8 D fun W hW hB hT hN => renew1_over _ _ _ b k a i _ now t D W (h.below hW) hi64 hB hN hT c1
      · rw [if_neg c1] at hE
        by_cases c2 : now + t ≤ 1099511627776
        · rw [if_pos c2] at hE
          have e1 : D.renew 3 i (D.t.g i) t now = D.until i (now + t).toNat := by unfold Dk.renew; rw [if_pos hE, Int.toNat_natCast]
          rw [hE, e1]
          exact key 0 _ fun W hW hB hT hN => renew1_ok _ _ _ b k a i _ now t D W (h.below hW) hi64 hB hN hT (by omega) ha.1 ha.2 c2
        · rw [if_neg c2] at hE
          rw [hE, Dk.renew_ne (by omega)]
          exact key 17 D fun W hW hB hT hN => renew1_late _ _ _ b k a i _ now t D W (h.below hW) hi64 hB hN hT (by omega) ha.1 ha.2 (by omega)
    · have hE := Dk.rE_chk (k := x) (i := y) (g := z) ha.1 ha.2 h0
      rw [Dk.renew_ne (by rw [hE]; exact h0), hE]
      refine (renew_of (some ⟨b, 0, none⟩) x y z t now (D.chk x y z) (fun w' => Below w.heap.size w w') true true true w (by simpa using ha.1) (by simpa using ha.2) rfl fun W hW _ _ _ => ?_).mono fun _ _ ⟨h1, h2⟩ => ⟨h1, h.below h2.out, Kept.of_below h2.out⟩
      exact (found_no b k a D x y z hr h0 _ W (h.below hW)).mono fun _ _ ⟨h1, h2⟩ => ⟨h1, bel2 hW h2⟩
  · have hE := Dk.rE_arg (D := D) (k := x) (i := y) (g := z) ha
    rw [Dk.renew_ne (by omega), hE]
    refine (renew_of (some ⟨b, 0, none⟩) x y z t now 2 (fun w' => Below w.heap.size w w') _ _ false w rfl rfl (by simpa using ha) fun W hW _ _ _ => ?_).mono fun _ _ ⟨h1, h2⟩ => ⟨h1, h.below h2.out, Kept.of_below h2.out⟩
    exact (found_not b k x y z hr _ W (h.below hW).c0).mono fun _ _ ⟨h1, h2⟩ => ⟨h1, bel2 hW h2⟩
end Go.Proofs.Ytfemfgpciogbeaa
