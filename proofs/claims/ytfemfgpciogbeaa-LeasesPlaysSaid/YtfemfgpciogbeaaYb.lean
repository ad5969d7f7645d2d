/- The contracts of found, and of found with each closure that it calls, told by what the closure does. -/
import Derived.Test.YtfemfgpciogbeaaYa
namespace Go.Proofs.Ytfemfgpciogbeaa
open Go.RowKit

theorem IsLease.okn {k i g : Int} (h : IsLease k i g) (hr : RgO k i g) : k = 3 ∧ ∃ i' g' : Nat, i = i' ∧ g = g' ∧ Okn 64 3 i' g' := by
  obtain ⟨h1, h2, h3, h4⟩ := h
  have := hr.g0
  have := hr.g1
  exact ⟨h1, i.toNat, g.toNat, by omega, by omega, ⟨by omega, by omega, by omega, by omega, by omega⟩⟩
theorem not_lease {k i g : Int} (h : ¬ IsLease k i g) (hr : RgO k i g) : Bad 64 k i g ∨ (k ≠ 3 ∧ ∃ k' i' g' : Nat, k = k' ∧ i = i' ∧ g = g' ∧ Okn 64 k' i' g') := by
  rcases ok_or (n := 64) hr with ⟨k', i', g', rfl, rfl, rfl, ho⟩ | hb
  · refine .inr ⟨fun e => h ⟨e, ?_, ?_, ?_⟩, k', i', g', rfl, rfl, rfl, ho⟩ <;> (have := ho.2.2.1; have := ho.2.2.2.1; omega)
  · exact .inl hb
theorem box_o {w w2 : World} {x y z : Int} (hb : Below (w.alloc (.cells #[.int .i64 x, .int .i64 y, .int .u32 z] 33)).heap.size (w.alloc (.cells #[.int .i64 x, .int .i64 y, .int .u32 z] 33)) w2) :
    w2.cell? ⟨w.heap.size, 0, none⟩ = some (.int .i64 x) ∧ w2.cell? ⟨w.heap.size, 1, none⟩ = some (.int .i64 y) ∧ w2.cell? ⟨w.heap.size, 2, none⟩ = some (.int .u32 z) ∧ w.heap.size < w2.heap.size := by
  have h := (Bk.new w 33 #[.int .i64 x, .int .i64 y, .int .u32 z]).below hb
  exact ⟨h.cell 0, h.cell 1, h.cell 2, h.lt⟩

/-! ### found, where nothing follows -/
set_option maxHeartbeats 1000000 in
theorem found_inv (p : Option Addr) (x y z : Int) (r : Bool) (fv : Value) (w : World) (h : DInv w p) : Calls Try.prog 47 #[.pointer p, .agg #[.int .i64 x, .int .i64 y, .int .u32 z], .bool r, fv] w fun e w' => e = .returned (.int .i64 1) ∧ Below w.heap.size w w' := by
  have H := Lib.hid (h.below ((Below.refl _ w).alloc (Nat.le_refl _) (.cells #[.int .i64 x, .int .i64 y, .int .u32 z] 33)))
  clear h
  go_enter Try.func47, Try.ntmps47
  go_wp2_with (go_at_call 38; refine (dvalid_no _ _ H.out).mono ?_; rintro e w' ⟨rfl, rfl⟩)
  go_ret
  exact ⟨rfl, (Below.refl _ _).alloc (Nat.le_refl _) _⟩
set_option maxHeartbeats 1000000 in
theorem found_bad (b k : Nat) (x y z : Int) (r : Bool) (hr : RgO x y z) (hf : ¬ IsLease x y z) (fv : Value) (w : World) (hc : w.cell? ⟨b, 0, none⟩ = some (.pointer (some ⟨k, 0, none⟩))) : Calls Try.prog 47 #[.pointer (some ⟨b, 0, none⟩), .agg #[.int .i64 x, .int .i64 y, .int .u32 z], .bool r, fv] w fun e w' => e = .returned (.int .i64 2) ∧ Below w.heap.size w w' := by
  rcases not_lease hf hr with hb | ⟨hk, k', i', g', rfl, rfl, rfl, ho⟩
  · have HR := Lib.hid hr
    have HH := Lib.hid hb
    clear hr hf hb
    go_enter Try.func47, Try.ntmps47
    go_wp2_with (first
      | (go_at_call 38; refine (dvalid_yes _ k _ (cell_keeps ((Below.refl _ w).alloc (Nat.le_refl _) _) hc)).mono ?_; rintro e w' ⟨rfl, rfl⟩)
      | (go_at_call 67; refine (ochk_bad _ _ _ HR.out HH.out _).mono ?_; rintro e w2 ⟨rfl, hb2⟩; have HB := Lib.hid hb2; clear hb2))
    go_ret
    exact ⟨rfl, bel2 ((Below.refl _ _).alloc (Nat.le_refl _) _) HB.out⟩
  · have HH := Lib.hid ho
    clear hr hf ho
    go_enter Try.func47, Try.ntmps47
    go_wp2_with (first
      | (go_at_call 38; refine (dvalid_yes _ k _ (cell_keeps ((Below.refl _ w).alloc (Nat.le_refl _) _) hc)).mono ?_; rintro e w' ⟨rfl, rfl⟩)
      | (go_at_call 67; refine (ochk_ok _ _ _ HH.out _).mono ?_; rintro e w2 ⟨rfl, hb2⟩; have HB := Lib.hid hb2; have hc2 := (bcell hb2).1 w.heap.size 0 (by simp); clear hb2))
    go_ret
    exact ⟨rfl, bel2 ((Below.refl _ _).alloc (Nat.le_refl _) _) HB.out⟩
set_option maxHeartbeats 1000000 in
theorem found_not (b k : Nat) (x y z : Int) (hr : RgO x y z) (fv : Value) (w : World) (hc : w.cell? ⟨b, 0, none⟩ = some (.pointer (some ⟨k, 0, none⟩))) : Calls Try.prog 47 #[.pointer (some ⟨b, 0, none⟩), .agg #[.int .i64 x, .int .i64 y, .int .u32 z], .bool false, fv] w fun e w' => e = .returned (.int .i64 2) ∧ Below w.heap.size w w' := by
  by_cases hf : IsLease x y z
  · obtain ⟨rfl, i', g', rfl, rfl, ho⟩ := hf.okn hr
    have HH := Lib.hid ho
    clear hr hf ho
    go_enter Try.func47, Try.ntmps47
    go_wp2_with (first
      | (go_at_call 38; refine (dvalid_yes _ k _ (cell_keeps ((Below.refl _ w).alloc (Nat.le_refl _) _) hc)).mono ?_; rintro e w' ⟨rfl, rfl⟩)
      | (go_at_call 67; refine (ochk_ok _ _ _ HH.out _).mono ?_; rintro e w2 ⟨rfl, hb2⟩; have HB := Lib.hid hb2; have hc2 := (bcell hb2).1 w.heap.size 0 (by simp); clear hb2))
    go_ret
    exact ⟨rfl, bel2 ((Below.refl _ _).alloc (Nat.le_refl _) _) HB.out⟩
  · exact found_bad b k x y z false hr hf fv w hc
set_option maxHeartbeats 1000000 in
theorem found_stale (b k a : Nat) (D : Dk) (x y z E : Int) (hr : RgO x y z) (hf : IsLease x y z) (hE : D.t.chk y z = E) (h0 : E ≠ 0) (fv : Value) (w : World) (h : DkW w b k a D) : Calls Try.prog 47 #[.pointer (some ⟨b, 0, none⟩), .agg #[.int .i64 x, .int .i64 y, .int .u32 z], .bool true, fv] w fun e w' => e = .returned (.int .i64 E) ∧ Below w.heap.size w w' := by
  obtain ⟨rfl, i', g', rfl, rfl, ho⟩ := hf.okn hr
  have hE0 : (E != 0) = true := by simpa using h0
  have hc := h.c0
  have CK : Hid (∀ W, Below w.heap.size w W → Calls Try.prog 68 #[.pointer (some ⟨k, 0, none⟩), .agg #[.int .i64 i', .int .u32 g']] W fun e w' => e = .returned (.int .i64 E) ∧ Below W.heap.size W w') := fun W hW => by
    have := check_any k D.t i' g' W (h.below hW).tab
    rw [hE] at this; exact this
  have HC : Hid (∀ W, Below w.heap.size w W → W.cell? ⟨b, 0, none⟩ = some (.pointer (some ⟨k, 0, none⟩))) := fun W hW => (h.below hW).c0
  have HH := Lib.hid ho
  clear hr hf ho h hE h0
  go_enter Try.func47, Try.ntmps47
  go_wp2_with (first
    | (go_at_call 38; refine (dvalid_yes _ k _ (cell_keeps ((Below.refl _ w).alloc (Nat.le_refl _) _) hc)).mono ?_; rintro e w' ⟨rfl, rfl⟩)
    | (go_at_call 67; refine (ochk_ok _ _ _ HH.out _).mono ?_; rintro e w2 ⟨rfl, hb2⟩; have HB := Lib.hid (bel2 ((Below.refl _ _).alloc (Nat.le_refl _) _) hb2); obtain ⟨q0, q1, q2, hl2⟩ := box_o hb2; have hc3 := HC.out w2 HB.out; clear hb2))
  have hbl : b < w2.heap.size := World.block_lt_of_cell? _ _ hc3
  have S0 : (w2.alloc (.cells #[.int .i64 i', .int .u32 g'] 86)).cell? ⟨b, 0, none⟩ = some (.pointer (some ⟨k, 0, none⟩)) ∧ (w2.alloc (.cells #[.int .i64 i', .int .u32 g'] 86)).cell? ⟨w2.heap.size, 0, none⟩ = some (.int .i64 i') ∧ (w2.alloc (.cells #[.int .i64 i', .int .u32 g'] 86)).cell? ⟨w2.heap.size, 1, none⟩ = some (.int .u32 g') := by
    have hn := Bk.new w2 86 #[.int .i64 i', .int .u32 g']
    exact ⟨cell_keeps ((Below.refl _ w2).alloc (Nat.le_refl _) _) hc3, hn.cell 0, hn.cell 1⟩
  have B0 := Lib.hid (bel_drew (bel_alloc HB.out (.cells #[.int .i64 i', .int .u32 g'] 86)))
  generalize (w2.alloc (.cells #[.int .i64 i', .int .u32 g'] 86)) = w4 at *
  obtain ⟨s0, s1, s2⟩ := S0
  go_region_held3 (fun W => W.cell? ⟨b, 0, none⟩ = some (.pointer (some ⟨k, 0, none⟩)) ∧ W.cell? ⟨w2.heap.size, 0, none⟩ = some (.int .i64 i') ∧ W.cell? ⟨w2.heap.size, 1, none⟩ = some (.int .u32 g')) (first | (exact ⟨s0, s1, s2⟩) | (with_reducible exact hz1)) (first
    | (go_at_call 68; (with_reducible refine (CK.out _ B0.out).mono ?_); rintro e w5 ⟨rfl, hb5⟩; have HB5 := Lib.hid (bel2 B0.out hb5); have hz1 := And.intro (cell_keeps hb5 s0) (And.intro (cell_keeps hb5 s1) (cell_keeps hb5 s2)); clear hb5))
  all_goals
    go_wp2
    go_ret
    exact ⟨rfl, HB5.out⟩
/-- found, where a resource is no lease that is there. -/
theorem found_no (b k a : Nat) (D : Dk) (x y z : Int) (hr : RgO x y z) (h0 : D.chk x y z ≠ 0) (fv : Value) (w : World) (h : DkW w b k a D) : Calls Try.prog 47 #[.pointer (some ⟨b, 0, none⟩), .agg #[.int .i64 x, .int .i64 y, .int .u32 z], .bool true, fv] w fun e w' => e = .returned (.int .i64 (D.chk x y z)) ∧ Below w.heap.size w w' := by
  rcases D.chk_cases x y z with ⟨h1, h2⟩ | ⟨h1, h2⟩
  · rw [h2]; exact found_bad b k x y z true hr h1 fv w h.c0
  · rw [h2] at h0 ⊢
    exact found_stale b k a D x y z _ hr h1 rfl h0 fv w h

/-! ### found, with what follows -/
set_option maxHeartbeats 1000000 in
theorem found_renew (A1 A2 A3 : Addr) (b k a i : Nat) (D : Dk) (E : Int) (Q : World → Prop) (w : World) (h : DkW w b k a D) (hi : i < D.t.n) (hs : D.t.s i = 1)
    (CL : ∀ W, Below w.heap.size w W → Calls Try.prog 48 #[.agg #[.int .i64 i, .int .u32 (D.t.g i)], .pointer (some A1), .pointer (some A2), .pointer (some A3)] W fun e w' => e = .returned (.int .i64 E) ∧ Hid (Q w')) :
    Calls Try.prog 47 #[.pointer (some ⟨b, 0, none⟩), .agg #[.int .i64 3, .int .i64 i, .int .u32 (D.t.g i)], .bool true, .func (.func 48) #[] #[.pointer (some A1), .pointer (some A2), .pointer (some A3)]] w fun e w' => e = .returned (.int .i64 E) ∧ Hid (Q w') := by
  obtain ⟨g', hg⟩ : ∃ z, D.t.g i = z := ⟨_, rfl⟩
  obtain ⟨i', hi'⟩ : ∃ j, i = j := ⟨_, rfl⟩
  have ho : Okn 64 3 i' g' := by
    have a1 := h.ok.hi
    have a2 := h.ok.t.g1 i hi
    have a3 := h.ok.t.gm i
    exact ⟨by omega, by omega, by omega, by omega, by omega⟩
  have hE : D.t.chk i' g' = 0 := by rw [← hi', ← hg]; exact Tb.chk_held hi hs
  have HCL := Lib.hid CL
  rw [hg] at HCL ⊢
  rw [hi'] at HCL ⊢
  have hc := h.c0
  have CK : Hid (∀ W, Below w.heap.size w W → Calls Try.prog 68 #[.pointer (some ⟨k, 0, none⟩), .agg #[.int .i64 i', .int .u32 g']] W fun e w' => e = .returned (.int .i64 0) ∧ Below W.heap.size W w') := fun W hW => by
    have := check_any k D.t i' g' W (h.below hW).tab
    rw [hE] at this; exact this
  have HC : Hid (∀ W, Below w.heap.size w W → W.cell? ⟨b, 0, none⟩ = some (.pointer (some ⟨k, 0, none⟩))) := fun W hW => (h.below hW).c0
  have HH := Lib.hid ho
  clear ho h hE hi hs CL hi' hg
  go_enter Try.func47, Try.ntmps47
  go_wp2_with (first
    | (go_at_call 38; refine (dvalid_yes _ k _ (cell_keeps ((Below.refl _ w).alloc (Nat.le_refl _) _) hc)).mono ?_; rintro e w' ⟨rfl, rfl⟩)
    | (go_at_call 67; refine (ochk_ok _ _ _ HH.out _).mono ?_; rintro e w2 ⟨rfl, hb2⟩; have HB := Lib.hid (bel2 ((Below.refl _ _).alloc (Nat.le_refl _) _) hb2); obtain ⟨q0, q1, q2, hl2⟩ := box_o hb2; have hc3 := HC.out w2 HB.out; clear hb2))
  have hbl : b < w2.heap.size := World.block_lt_of_cell? _ _ hc3
  have S0 : (w2.alloc (.cells #[.int .i64 i', .int .u32 g'] 86)).cell? ⟨b, 0, none⟩ = some (.pointer (some ⟨k, 0, none⟩)) ∧ (w2.alloc (.cells #[.int .i64 i', .int .u32 g'] 86)).cell? ⟨w2.heap.size, 0, none⟩ = some (.int .i64 i') ∧ (w2.alloc (.cells #[.int .i64 i', .int .u32 g'] 86)).cell? ⟨w2.heap.size, 1, none⟩ = some (.int .u32 g') := by
    have hn := Bk.new w2 86 #[.int .i64 i', .int .u32 g']
    exact ⟨cell_keeps ((Below.refl _ w2).alloc (Nat.le_refl _) _) hc3, hn.cell 0, hn.cell 1⟩
  have B0 := Lib.hid (bel_drew (bel_alloc HB.out (.cells #[.int .i64 i', .int .u32 g'] 86)))
  generalize (w2.alloc (.cells #[.int .i64 i', .int .u32 g'] 86)) = w4 at *
  obtain ⟨s0, s1, s2⟩ := S0
  go_region_held3 (fun W => W.cell? ⟨b, 0, none⟩ = some (.pointer (some ⟨k, 0, none⟩)) ∧ W.cell? ⟨w2.heap.size, 0, none⟩ = some (.int .i64 i') ∧ W.cell? ⟨w2.heap.size, 1, none⟩ = some (.int .u32 g')) (first | (exact ⟨s0, s1, s2⟩) | (with_reducible exact hz1)) (first
    | (go_at_call 68; (with_reducible refine (CK.out _ B0.out).mono ?_); rintro e w5 ⟨rfl, hb5⟩; have HB5 := Lib.hid (bel2 B0.out hb5); have hz1 := And.intro (cell_keeps hb5 s0) (And.intro (cell_keeps hb5 s1) (cell_keeps hb5 s2)); clear hb5))
  all_goals
    obtain ⟨t0, t1, t2⟩ := hz1
    go_wp2_with (go_at_call 48; refine (HCL.out _ HB5.out).mono ?_; rintro e w6 ⟨rfl, HF⟩)
    go_ret
    exact ⟨rfl, HF⟩
set_option maxHeartbeats 1000000 in
theorem found_return (A1 : Addr) (b k a i : Nat) (D : Dk) (E : Int) (Q : World → Prop) (w : World) (h : DkW w b k a D) (hi : i < D.t.n) (hs : D.t.s i = 1)
    (CL : ∀ W, Below w.heap.size w W → Calls Try.prog 51 #[.agg #[.int .i64 i, .int .u32 (D.t.g i)], .pointer (some A1)] W fun e w' => e = .returned (.int .i64 E) ∧ Hid (Q w')) :
    Calls Try.prog 47 #[.pointer (some ⟨b, 0, none⟩), .agg #[.int .i64 3, .int .i64 i, .int .u32 (D.t.g i)], .bool true, .func (.func 51) #[] #[.pointer (some A1)]] w fun e w' => e = .returned (.int .i64 E) ∧ Hid (Q w') := by
  obtain ⟨g', hg⟩ : ∃ z, D.t.g i = z := ⟨_, rfl⟩
  obtain ⟨i', hi'⟩ : ∃ j, i = j := ⟨_, rfl⟩
  have ho : Okn 64 3 i' g' := by
    have a1 := h.ok.hi
    have a2 := h.ok.t.g1 i hi
    have a3 := h.ok.t.gm i
    exact ⟨by omega, by omega, by omega, by omega, by omega⟩
  have hE : D.t.chk i' g' = 0 := by rw [← hi', ← hg]; exact Tb.chk_held hi hs
  have HCL := Lib.hid CL
  rw [hg] at HCL ⊢
  rw [hi'] at HCL ⊢
  have hc := h.c0
  have CK : Hid (∀ W, Below w.heap.size w W → Calls Try.prog 68 #[.pointer (some ⟨k, 0, none⟩), .agg #[.int .i64 i', .int .u32 g']] W fun e w' => e = .returned (.int .i64 0) ∧ Below W.heap.size W w') := fun W hW => by
    have := check_any k D.t i' g' W (h.below hW).tab
    rw [hE] at this; exact this
  have HC : Hid (∀ W, Below w.heap.size w W → W.cell? ⟨b, 0, none⟩ = some (.pointer (some ⟨k, 0, none⟩))) := fun W hW => (h.below hW).c0
  have HH := Lib.hid ho
  clear ho h hE hi hs CL hi' hg
  go_enter Try.func47, Try.ntmps47
  go_wp2_with (first
    | (go_at_call 38; refine (dvalid_yes _ k _ (cell_keeps ((Below.refl _ w).alloc (Nat.le_refl _) _) hc)).mono ?_; rintro e w' ⟨rfl, rfl⟩)
    | (go_at_call 67; refine (ochk_ok _ _ _ HH.out _).mono ?_; rintro e w2 ⟨rfl, hb2⟩; have HB := Lib.hid (bel2 ((Below.refl _ _).alloc (Nat.le_refl _) _) hb2); obtain ⟨q0, q1, q2, hl2⟩ := box_o hb2; have hc3 := HC.out w2 HB.out; clear hb2))
  have hbl : b < w2.heap.size := World.block_lt_of_cell? _ _ hc3
  have S0 : (w2.alloc (.cells #[.int .i64 i', .int .u32 g'] 86)).cell? ⟨b, 0, none⟩ = some (.pointer (some ⟨k, 0, none⟩)) ∧ (w2.alloc (.cells #[.int .i64 i', .int .u32 g'] 86)).cell? ⟨w2.heap.size, 0, none⟩ = some (.int .i64 i') ∧ (w2.alloc (.cells #[.int .i64 i', .int .u32 g'] 86)).cell? ⟨w2.heap.size, 1, none⟩ = some (.int .u32 g') := by
    have hn := Bk.new w2 86 #[.int .i64 i', .int .u32 g']
    exact ⟨cell_keeps ((Below.refl _ w2).alloc (Nat.le_refl _) _) hc3, hn.cell 0, hn.cell 1⟩
  have B0 := Lib.hid (bel_drew (bel_alloc HB.out (.cells #[.int .i64 i', .int .u32 g'] 86)))
  generalize (w2.alloc (.cells #[.int .i64 i', .int .u32 g'] 86)) = w4 at *
  obtain ⟨s0, s1, s2⟩ := S0
  go_region_held3 (fun W => W.cell? ⟨b, 0, none⟩ = some (.pointer (some ⟨k, 0, none⟩)) ∧ W.cell? ⟨w2.heap.size, 0, none⟩ = some (.int .i64 i') ∧ W.cell? ⟨w2.heap.size, 1, none⟩ = some (.int .u32 g')) (first | (exact ⟨s0, s1, s2⟩) | (with_reducible exact hz1)) (first
    | (go_at_call 68; (with_reducible refine (CK.out _ B0.out).mono ?_); rintro e w5 ⟨rfl, hb5⟩; have HB5 := Lib.hid (bel2 B0.out hb5); have hz1 := And.intro (cell_keeps hb5 s0) (And.intro (cell_keeps hb5 s1) (cell_keeps hb5 s2)); clear hb5))
  all_goals
    obtain ⟨t0, t1, t2⟩ := hz1
    go_wp2_with (go_at_call 51; refine (HCL.out _ HB5.out).mono ?_; rintro e w6 ⟨rfl, HF⟩)
    go_ret
    exact ⟨rfl, HF⟩
set_option maxHeartbeats 1000000 in
theorem found_until (A1 A2 : Addr) (b k a i : Nat) (D : Dk) (E : Int) (Q : World → Prop) (w : World) (h : DkW w b k a D) (hi : i < D.t.n) (hs : D.t.s i = 1)
    (CL : ∀ W, Below w.heap.size w W → Calls Try.prog 54 #[.agg #[.int .i64 i, .int .u32 (D.t.g i)], .pointer (some A1), .pointer (some A2)] W fun e w' => e = .returned (.int .i64 E) ∧ Hid (Q w')) :
    Calls Try.prog 47 #[.pointer (some ⟨b, 0, none⟩), .agg #[.int .i64 3, .int .i64 i, .int .u32 (D.t.g i)], .bool true, .func (.func 54) #[] #[.pointer (some A1), .pointer (some A2)]] w fun e w' => e = .returned (.int .i64 E) ∧ Hid (Q w') := by
  obtain ⟨g', hg⟩ : ∃ z, D.t.g i = z := ⟨_, rfl⟩
  obtain ⟨i', hi'⟩ : ∃ j, i = j := ⟨_, rfl⟩
  have ho : Okn 64 3 i' g' := by
    have a1 := h.ok.hi
    have a2 := h.ok.t.g1 i hi
    have a3 := h.ok.t.gm i
    exact ⟨by omega, by omega, by omega, by omega, by omega⟩
  have hE : D.t.chk i' g' = 0 := by rw [← hi', ← hg]; exact Tb.chk_held hi hs
  have HCL := Lib.hid CL
  rw [hg] at HCL ⊢
  rw [hi'] at HCL ⊢
  have hc := h.c0
  have CK : Hid (∀ W, Below w.heap.size w W → Calls Try.prog 68 #[.pointer (some ⟨k, 0, none⟩), .agg #[.int .i64 i', .int .u32 g']] W fun e w' => e = .returned (.int .i64 0) ∧ Below W.heap.size W w') := fun W hW => by
    have := check_any k D.t i' g' W (h.below hW).tab
    rw [hE] at this; exact this
  have HC : Hid (∀ W, Below w.heap.size w W → W.cell? ⟨b, 0, none⟩ = some (.pointer (some ⟨k, 0, none⟩))) := fun W hW => (h.below hW).c0
  have HH := Lib.hid ho
  clear ho h hE hi hs CL hi' hg
  go_enter Try.func47, Try.ntmps47
  go_wp2_with (first
    | (go_at_call 38; refine (dvalid_yes _ k _ (cell_keeps ((Below.refl _ w).alloc (Nat.le_refl _) _) hc)).mono ?_; rintro e w' ⟨rfl, rfl⟩)
    | (go_at_call 67; refine (ochk_ok _ _ _ HH.out _).mono ?_; rintro e w2 ⟨rfl, hb2⟩; have HB := Lib.hid (bel2 ((Below.refl _ _).alloc (Nat.le_refl _) _) hb2); obtain ⟨q0, q1, q2, hl2⟩ := box_o hb2; have hc3 := HC.out w2 HB.out; clear hb2))
  have hbl : b < w2.heap.size := World.block_lt_of_cell? _ _ hc3
  have S0 : (w2.alloc (.cells #[.int .i64 i', .int .u32 g'] 86)).cell? ⟨b, 0, none⟩ = some (.pointer (some ⟨k, 0, none⟩)) ∧ (w2.alloc (.cells #[.int .i64 i', .int .u32 g'] 86)).cell? ⟨w2.heap.size, 0, none⟩ = some (.int .i64 i') ∧ (w2.alloc (.cells #[.int .i64 i', .int .u32 g'] 86)).cell? ⟨w2.heap.size, 1, none⟩ = some (.int .u32 g') := by
    have hn := Bk.new w2 86 #[.int .i64 i', .int .u32 g']
    exact ⟨cell_keeps ((Below.refl _ w2).alloc (Nat.le_refl _) _) hc3, hn.cell 0, hn.cell 1⟩
  have B0 := Lib.hid (bel_drew (bel_alloc HB.out (.cells #[.int .i64 i', .int .u32 g'] 86)))
  generalize (w2.alloc (.cells #[.int .i64 i', .int .u32 g'] 86)) = w4 at *
  obtain ⟨s0, s1, s2⟩ := S0
  go_region_held3 (fun W => W.cell? ⟨b, 0, none⟩ = some (.pointer (some ⟨k, 0, none⟩)) ∧ W.cell? ⟨w2.heap.size, 0, none⟩ = some (.int .i64 i') ∧ W.cell? ⟨w2.heap.size, 1, none⟩ = some (.int .u32 g')) (first | (exact ⟨s0, s1, s2⟩) | (with_reducible exact hz1)) (first
    | (go_at_call 68; (with_reducible refine (CK.out _ B0.out).mono ?_); rintro e w5 ⟨rfl, hb5⟩; have HB5 := Lib.hid (bel2 B0.out hb5); have hz1 := And.intro (cell_keeps hb5 s0) (And.intro (cell_keeps hb5 s1) (cell_keeps hb5 s2)); clear hb5))
  all_goals
    obtain ⟨t0, t1, t2⟩ := hz1
    go_wp2_with (go_at_call 54; refine (HCL.out _ HB5.out).mono ?_; rintro e w6 ⟨rfl, HF⟩)
    go_ret
    exact ⟨rfl, HF⟩
set_option maxHeartbeats 1000000 in
theorem found_over (A1 A2 A3 : Addr) (b k a i : Nat) (D : Dk) (E : Int) (Q : World → Prop) (w : World) (h : DkW w b k a D) (hi : i < D.t.n) (hs : D.t.s i = 1)
    (CL : ∀ W, Below w.heap.size w W → Calls Try.prog 55 #[.agg #[.int .i64 i, .int .u32 (D.t.g i)], .pointer (some A1), .pointer (some A2), .pointer (some A3)] W fun e w' => e = .returned (.int .i64 E) ∧ Hid (Q w')) :
    Calls Try.prog 47 #[.pointer (some ⟨b, 0, none⟩), .agg #[.int .i64 3, .int .i64 i, .int .u32 (D.t.g i)], .bool true, .func (.func 55) #[] #[.pointer (some A1), .pointer (some A2), .pointer (some A3)]] w fun e w' => e = .returned (.int .i64 E) ∧ Hid (Q w') := by
  obtain ⟨g', hg⟩ : ∃ z, D.t.g i = z := ⟨_, rfl⟩
  obtain ⟨i', hi'⟩ : ∃ j, i = j := ⟨_, rfl⟩
  have ho : Okn 64 3 i' g' := by
    have a1 := h.ok.hi
    have a2 := h.ok.t.g1 i hi
    have a3 := h.ok.t.gm i
    exact ⟨by omega, by omega, by omega, by omega, by omega⟩
  have hE : D.t.chk i' g' = 0 := by rw [← hi', ← hg]; exact Tb.chk_held hi hs
  have HCL := Lib.hid CL
  rw [hg] at HCL ⊢
  rw [hi'] at HCL ⊢
  have hc := h.c0
  have CK : Hid (∀ W, Below w.heap.size w W → Calls Try.prog 68 #[.pointer (some ⟨k, 0, none⟩), .agg #[.int .i64 i', .int .u32 g']] W fun e w' => e = .returned (.int .i64 0) ∧ Below W.heap.size W w') := fun W hW => by
    have := check_any k D.t i' g' W (h.below hW).tab
    rw [hE] at this; exact this
  have HC : Hid (∀ W, Below w.heap.size w W → W.cell? ⟨b, 0, none⟩ = some (.pointer (some ⟨k, 0, none⟩))) := fun W hW => (h.below hW).c0
  have HH := Lib.hid ho
  clear ho h hE hi hs CL hi' hg
  go_enter Try.func47, Try.ntmps47
  go_wp2_with (first
    | (go_at_call 38; refine (dvalid_yes _ k _ (cell_keeps ((Below.refl _ w).alloc (Nat.le_refl _) _) hc)).mono ?_; rintro e w' ⟨rfl, rfl⟩)
    | (go_at_call 67; refine (ochk_ok _ _ _ HH.out _).mono ?_; rintro e w2 ⟨rfl, hb2⟩; have HB := Lib.hid (bel2 ((Below.refl _ _).alloc (Nat.le_refl _) _) hb2); obtain ⟨q0, q1, q2, hl2⟩ := box_o hb2; have hc3 := HC.out w2 HB.out; clear hb2))
  have hbl : b < w2.heap.size := World.block_lt_of_cell? _ _ hc3
  have S0 : (w2.alloc (.cells #[.int .i64 i', .int .u32 g'] 86)).cell? ⟨b, 0, none⟩ = some (.pointer (some ⟨k, 0, none⟩)) ∧ (w2.alloc (.cells #[.int .i64 i', .int .u32 g'] 86)).cell? ⟨w2.heap.size, 0, none⟩ = some (.int .i64 i') ∧ (w2.alloc (.cells #[.int .i64 i', .int .u32 g'] 86)).cell? ⟨w2.heap.size, 1, none⟩ = some (.int .u32 g') := by
    have hn := Bk.new w2 86 #[.int .i64 i', .int .u32 g']
    exact ⟨cell_keeps ((Below.refl _ w2).alloc (Nat.le_refl _) _) hc3, hn.cell 0, hn.cell 1⟩
  have B0 := Lib.hid (bel_drew (bel_alloc HB.out (.cells #[.int .i64 i', .int .u32 g'] 86)))
  generalize (w2.alloc (.cells #[.int .i64 i', .int .u32 g'] 86)) = w4 at *
  obtain ⟨s0, s1, s2⟩ := S0
  go_region_held3 (fun W => W.cell? ⟨b, 0, none⟩ = some (.pointer (some ⟨k, 0, none⟩)) ∧ W.cell? ⟨w2.heap.size, 0, none⟩ = some (.int .i64 i') ∧ W.cell? ⟨w2.heap.size, 1, none⟩ = some (.int .u32 g')) (first | (exact ⟨s0, s1, s2⟩) | (with_reducible exact hz1)) (first
    | (go_at_call 68; (with_reducible refine (CK.out _ B0.out).mono ?_); rintro e w5 ⟨rfl, hb5⟩; have HB5 := Lib.hid (bel2 B0.out hb5); have hz1 := And.intro (cell_keeps hb5 s0) (And.intro (cell_keeps hb5 s1) (cell_keeps hb5 s2)); clear hb5))
  all_goals
    obtain ⟨t0, t1, t2⟩ := hz1
    go_wp2_with (go_at_call 55; refine (HCL.out _ HB5.out).mono ?_; rintro e w6 ⟨rfl, HF⟩)
    go_ret
    exact ⟨rfl, HF⟩
end Go.Proofs.Ytfemfgpciogbeaa
