/- The contracts of the program's small functions on pools: valid, buffer, held. -/
import Derived.Test.YtjhgckaaaonbiaaUk
import Derived.BigQuiet
import Derived.Deep.RegionHeld3
import Derived.Shelf.RegionOpen
namespace Go.Proofs.Ytjhgckaaaonbiaa
open Go.RowKit

/-! ### valid -/
theorem pvalid_no (p : Option Addr) (w : World) (h : PInv w p) : Calls Try.prog 27 #[.pointer p] w fun e w' => e = .returned (.bool false) ∧ w = w' := by
  rcases h with rfl | ⟨b, rfl, h⟩
  · go_enter Try.func27, Try.ntmps27
    go_wp2
    go_ret
    exact ⟨rfl, rfl⟩
  · have hc : w.cell? ⟨b, 0, none⟩ = some (.pointer none) := h.cell 0
    clear h
    go_enter Try.func27, Try.ntmps27
    go_wp2
    go_ret
    exact ⟨rfl, rfl⟩
theorem pvalid_yes (b s : Nat) (w : World) (hc : w.cell? ⟨b, 0, none⟩ = some (.pointer (some ⟨s, 0, none⟩))) : Calls Try.prog 27 #[.pointer (some ⟨b, 0, none⟩)] w fun e w' => e = .returned (.bool true) ∧ w = w' := by
  go_enter Try.func27, Try.ntmps27
  go_wp2
  go_ret
  exact ⟨rfl, rfl⟩

/-! ### buffer -/
theorem buffer_ok (i g : Int) (w : World) (_g0 : 0 ≤ g) (_g1 : g ≤ 4294967295) (_i0 : 0 ≤ i) (_i1 : i ≤ 256) :
    Calls Try.prog 29 #[.agg #[.int .i64 i, .int .u32 g]] w fun e w' => e = .returned (.agg #[.int .i64 2, .int .i64 i, .int .u32 g]) ∧ Below w.heap.size w w' := by
  go_enter Try.func29, Try.ntmps29
  go_wp2
  refine bodyPost_ret (v := .agg #[.int .i64 2, .int .i64 i, .int .u32 g]) (by simp [results, Try.results29, go_sem]) rfl ⟨rfl, ?_⟩
  exact ((Below.refl _ _).alloc (Nat.le_refl _) _).alloc (by simp) _

/-! ### held -/
theorem box_of {w w2 : World} {t : TypeId} {cs : Array Value} (hb : Below (w.alloc (.cells cs t)).heap.size (w.alloc (.cells cs t)) w2) : Bk w2 w.heap.size t cs := (Bk.new w t cs).below hb
def HeldV (i g E : Int) (w : World) (e : Ending) (w' : World) : Prop := e = .returned (.tuple #[.agg #[.int .i64 i, .int .u32 g], .int .i64 E]) ∧ Below w.heap.size w w'
/-- The boxes that held lays. -/
theorem held_boxes (w : World) (x y z : Int) {w1 : World} (h : (w.alloc (.cells #[.int .i64 x, .int .i64 y, .int .u32 z] 34)).alloc (.cells #[.int .i64 0, .int .u32 0] 80) = w1) :
    Bk w1 (w.heap.size + 1) 80 #[.int .i64 0, .int .u32 0] ∧ w1.heap.size = w.heap.size + 2 ∧ Below w.heap.size w w1 := by
  subst h
  have b1 := Bk.new (w.alloc (.cells #[.int .i64 x, .int .i64 y, .int .u32 z] 34)) 80 #[.int .i64 0, .int .u32 0]
  rw [World.size_alloc] at b1
  exact ⟨b1, by simp, ((Below.refl _ w).alloc (Nat.le_refl _) _).alloc (by simp) _⟩
set_option maxHeartbeats 1000000 in
theorem pheld_inv (p : Option Addr) (x y z : Int) (w : World) (h : PInv w p) : Calls Try.prog 37 #[.pointer p, .agg #[.int .i64 x, .int .i64 y, .int .u32 z]] w (HeldV 0 0 1 w) := by
  obtain ⟨w1, hw1⟩ : ∃ w1, (w.alloc (.cells #[.int .i64 x, .int .i64 y, .int .u32 z] 34)).alloc (.cells #[.int .i64 0, .int .u32 0] 80) = w1 := ⟨_, rfl⟩
  obtain ⟨k1, k2, k3⟩ := held_boxes w x y z hw1
  have H := Lib.hid (h.below k3)
  rw [← hw1] at H
  clear h hw1 k1 k2 k3
  go_enter Try.func37, Try.ntmps37
  go_wp2_with (go_at_call 27; refine (pvalid_no _ _ H.out).mono ?_; rintro e w' ⟨rfl, rfl⟩)
  refine bodyPost_ret (v := .tuple #[.agg #[.int .i64 0, .int .u32 0], .int .i64 1]) (by simp [results, Try.results37, go_sem]) rfl ⟨rfl, ?_⟩
  exact ((Below.refl _ w).alloc (Nat.le_refl _) _).alloc (by simp) _
set_option maxHeartbeats 1000000 in
theorem pheld_kind (b s k : Nat) (P : Po) (x y z : Int) (hk : x ≠ 2) (w : World) (h : PW w b s k P) : Calls Try.prog 37 #[.pointer (some ⟨b, 0, none⟩), .agg #[.int .i64 x, .int .i64 y, .int .u32 z]] w (HeldV 0 0 2 w) := by
  obtain ⟨w1, hw1⟩ : ∃ w1, (w.alloc (.cells #[.int .i64 x, .int .i64 y, .int .u32 z] 34)).alloc (.cells #[.int .i64 0, .int .u32 0] 80) = w1 := ⟨_, rfl⟩
  obtain ⟨k1, k2, k3⟩ := held_boxes w x y z hw1
  have H := Lib.hid (h.below k3).c0
  rw [← hw1] at H
  have hx : (x != 2) = true := by simpa using hk
  clear h hw1 k1 k2 k3 hk
  go_enter Try.func37, Try.ntmps37
  go_wp2_with (go_at_call 27; refine (pvalid_yes _ s _ H.out).mono ?_; rintro e w' ⟨rfl, rfl⟩)
  refine bodyPost_ret (v := .tuple #[.agg #[.int .i64 0, .int .u32 0], .int .i64 2]) (by simp [results, Try.results37, go_sem]) rfl ⟨rfl, ?_⟩
  exact ((Below.refl _ w).alloc (Nat.le_refl _) _).alloc (by simp) _
def HeldA (i g E : Int) (w : World) (e : Ending) (w' : World) : Prop := (E = 0 → HeldV i g 0 w e w') ∧ (E ≠ 0 → HeldV 0 0 E w e w')
/-- Two cells written. -/
theorem two_put {W : World} {g : Nat} {t : TypeId} {a b : Value} (h : Bk W g t #[a, b]) (x y : Value) : Bk ((W.setCell ⟨g, 0, none⟩ x).setCell ⟨g, 1, none⟩ y) g t #[x, y] := (h.put 0 x).put 1 y
set_option maxHeartbeats 2000000 in
theorem pheld_any (b s k : Nat) (P : Po) (y z : Int) (w : World) (h : PW w b s k P) : Calls Try.prog 37 #[.pointer (some ⟨b, 0, none⟩), .agg #[.int .i64 2, .int .i64 y, .int .u32 z]] w (HeldA y z (P.t.chk y z) w) := by
  obtain ⟨w1, hw1⟩ : ∃ w1, (w.alloc (.cells #[.int .i64 2, .int .i64 y, .int .u32 z] 34)).alloc (.cells #[.int .i64 0, .int .u32 0] 80) = w1 := ⟨_, rfl⟩
  obtain ⟨k1, k2, k3⟩ := held_boxes w 2 y z hw1
  have H := Lib.hid (h.below k3).c0
  rw [← hw1] at H
  obtain ⟨w4, hw4⟩ : ∃ w4, w1.alloc (.cells #[.int .i64 y, .int .u32 z] 80) = w4 := ⟨_, rfl⟩
  have k4 : Below w1.heap.size w1 w4 := by rw [← hw4]; exact (Below.refl _ _).alloc (Nat.le_refl _) _
  have B4 : Below w.heap.size w w4 := bel2 k3 k4
  have n4 : Bk w4 (w.heap.size + 2) 80 #[.int .i64 y, .int .u32 z] := by rw [← hw4, ← k2]; exact Bk.new w1 _ _
  have HS : Hid (∀ W, Below w4.heap.size w4 W → W.cell? ⟨b, 0, none⟩ = some (.pointer (some ⟨s, 0, none⟩)) ∧ W.cell? ⟨s, 0, none⟩ = some (.pointer (some ⟨k, 0, none⟩)) ∧ W.cell? ⟨w.heap.size + 2, 0, none⟩ = some (.int .i64 y) ∧ W.cell? ⟨w.heap.size + 2, 1, none⟩ = some (.int .u32 z) ∧ Bk W (w.heap.size + 1) 80 #[.int .i64 0, .int .u32 0] ∧ Below w.heap.size w W) := fun W hW =>
    ⟨((h.below B4).below hW).c0, ((h.below B4).below hW).s0, (n4.below hW).cell 0, (n4.below hW).cell 1, (k1.below k4).below hW, bel2 B4 hW⟩
  obtain ⟨E, hE⟩ : ∃ E, P.t.chk y z = E := ⟨_, rfl⟩
  have CK : Hid (∀ W, Below w.heap.size w W → Calls Try.prog 46 #[.pointer (some ⟨k, 0, none⟩), .agg #[.int .i64 y, .int .u32 z]] W fun e w' => e = .returned (.int .i64 E) ∧ Below W.heap.size W w') := fun W hW => by
    have := check_any k P.t y z W (h.below hW).tab
    rw [hE] at this; exact this
  rw [hE]
  have HW4 : Hid (((w.alloc (.cells #[.int .i64 2, .int .i64 y, .int .u32 z] 34)).alloc (.cells #[.int .i64 0, .int .u32 0] 80)).alloc (.cells #[.int .i64 y, .int .u32 z] 80) = w4) := by rw [hw1]; exact hw4
  have HB4 := Lib.hid B4
  clear h hw1 hw4 k1 k2 k3 k4 n4 hE B4
  go_enter Try.func37, Try.ntmps37
  go_wp2_with (go_at_call 27; refine (pvalid_yes _ s _ H.out).mono ?_; rintro e w' ⟨rfl, rfl⟩)
  rw [HW4.out]
  obtain ⟨s0, s1, s2, s3, _⟩ := HS.out w4 (Below.refl _ _)
  go_region_held3 (fun W => W.cell? ⟨b, 0, none⟩ = some (.pointer (some ⟨s, 0, none⟩)) ∧ W.cell? ⟨s, 0, none⟩ = some (.pointer (some ⟨k, 0, none⟩)) ∧ W.cell? ⟨w.heap.size + 2, 0, none⟩ = some (.int .i64 y) ∧ W.cell? ⟨w.heap.size + 2, 1, none⟩ = some (.int .u32 z)) (first | (exact ⟨s0, s1, s2, s3⟩) | (with_reducible exact hz1)) (first
    | (go_at_call 46; (with_reducible refine (CK.out _ (bel_drew HB4.out)).mono ?_); rintro e w5 ⟨rfl, hb5⟩; have HS5 := HS.out w5 (bel2 (bel_drew (Below.refl _ w4)) hb5); have hz1 := And.intro HS5.1 (And.intro HS5.2.1 (And.intro HS5.2.2.1 HS5.2.2.2.1)); have HB5 := Lib.hid HS5.2.2.2.2; clear hb5 HS5))
  all_goals
    obtain ⟨q1, q2⟩ := HB5.out
    obtain ⟨z1, z2, z3, z4⟩ := hz1
    have d0 := q1.cell 0
    have d1 := q1.cell 1
    have f0 := q1.frozen 0
    have f1 := q1.frozen 1
    simp only [List.getElem?_toArray, List.getElem?_cons_zero, List.getElem?_cons_succ] at d0 d1
    by_cases hE : E = 0
    · subst hE
      have t := two_put q1 (.int .i64 y) (.int .u32 z)
      have HT := Lib.hid t
      have HQ := Lib.hid q2
      clear t q1 q2
      go_wp2
      have t0 := HT.out.cell 0
      have t1 := HT.out.cell 1
      simp only [List.getElem?_toArray, List.getElem?_cons_zero, List.getElem?_cons_succ] at t0 t1
      refine bodyPost_ret (v := .tuple #[.agg #[.int .i64 y, .int .u32 z], .int .i64 0]) (by simp [results, Try.results37, go_sem, t0, t1]) rfl ⟨fun _ => ⟨rfl, ?_⟩, fun h => absurd rfl h⟩
      exact (HQ.out.setCell (p := ⟨_, _, none⟩) (by simp) _).setCell (p := ⟨_, _, none⟩) (by simp) _
    · have hE1 : (E != 0) = true := by simpa using hE
      have t := two_put q1 (.int .i64 0) (.int .u32 0)
      have HT := Lib.hid t
      have HQ := Lib.hid q2
      clear t q1 q2
      have HE := Lib.hid hE
      clear hE
      go_wp2
      have t0 := HT.out.cell 0
      have t1 := HT.out.cell 1
      simp only [List.getElem?_toArray, List.getElem?_cons_zero, List.getElem?_cons_succ] at t0 t1
      refine bodyPost_ret (v := .tuple #[.agg #[.int .i64 0, .int .u32 0], .int .i64 E]) (by simp [results, Try.results37, go_sem, t0, t1]) rfl ⟨fun h => absurd h HE.out, fun _ => ⟨rfl, ?_⟩⟩
      exact (HQ.out.setCell (p := ⟨_, _, none⟩) (by simp) _).setCell (p := ⟨_, _, none⟩) (by simp) _
theorem Po.chk_two (P : Po) (y z : Int) : P.chk 2 y z = P.t.chk y z := if_pos rfl
/-- held, whatever is asked. -/
theorem pheld_yes (b s k : Nat) (P : Po) (x y z : Int) (w : World) (h : PW w b s k P) (hc : P.chk x y z = 0) : Calls Try.prog 37 #[.pointer (some ⟨b, 0, none⟩), .agg #[.int .i64 x, .int .i64 y, .int .u32 z]] w (HeldV y z 0 w) := by
  obtain ⟨rfl, _⟩ := Po.chk_pinned hc
  exact (pheld_any b s k P y z w h).mono fun e w' h => h.1 (by rw [← Po.chk_two]; exact hc)
theorem pheld_no (b s k : Nat) (P : Po) (x y z : Int) (w : World) (h : PW w b s k P) (hc : P.chk x y z ≠ 0) : Calls Try.prog 37 #[.pointer (some ⟨b, 0, none⟩), .agg #[.int .i64 x, .int .i64 y, .int .u32 z]] w (HeldV 0 0 (P.chk x y z) w) := by
  by_cases e : x = 2
  · subst e
    rw [Po.chk_two] at hc ⊢
    exact (pheld_any b s k P y z w h).mono fun e w' h => h.2 hc
  · have e2 : P.chk x y z = 2 := if_neg e
    rw [e2]; exact pheld_kind b s k P x y z e w h
end Go.Proofs.Ytjhgckaaaonbiaa
