/- The contract of the program's Store. -/
import Derived.Test.YtfnhkapbfgofkaaWf
namespace Go.Proofs.Ytfnhkapbfgofkaa
open Go.RowKit

theorem six_boxes (w : World) (c0 c1 c2 c3 c4 c5 : Array Value) (t0 t1 t2 t3 t4 t5 : TypeId) {w2 : World} (h : (((((w.alloc (.cells c0 t0)).alloc (.cells c1 t1)).alloc (.cells c2 t2)).alloc (.cells c3 t3)).alloc (.cells c4 t4)).alloc (.cells c5 t5) = w2) :
    Bk w2 w.heap.size t0 c0 ∧ Bk w2 (w.heap.size + 1) t1 c1 ∧ Bk w2 (w.heap.size + 2) t2 c2 ∧ Bk w2 (w.heap.size + 3) t3 c3 ∧ Bk w2 (w.heap.size + 4) t4 c4 ∧ Bk w2 (w.heap.size + 5) t5 c5 ∧ w2.heap.size = w.heap.size + 6 ∧ Below w.heap.size w w2 := by
  obtain ⟨w1, hw1⟩ : ∃ w1, (((w.alloc (.cells c0 t0)).alloc (.cells c1 t1)).alloc (.cells c2 t2)).alloc (.cells c3 t3) = w1 := ⟨_, rfl⟩
  rw [hw1] at h
  obtain ⟨h1, h2, h3, h4, h5, h6⟩ := four_boxes w _ _ _ _ _ _ _ _ hw1
  obtain ⟨k1, k2, k3, k4⟩ := two_boxes w1 _ _ _ _ h
  rw [h5] at k1 k2 k3
  exact ⟨h1.below k4, h2.below k4, h3.below k4, h4.below k4, k1, k2, k3, bel2 h6 k4⟩
def SFin (b p t : Nat) (H : Hp) (r : Rf) (i : Int) (v : Rf) (w w' : World) : Prop := HW w' b p t (H.stored r i v) ∧ Kept (· = p) w w'
theorem sfin_of {b p t : Nat} {H : Hp} {r : Rf} {i : Int} {v : Rf} {w W w6 : World} {B : Nat} (h : HW w b p t H) (hb : Below w.heap.size w W) (hB : w.heap.size + 5 ≤ B) (hs : StoP b p t B H r i v W w6) (hp : Bk W (w.heap.size + 4) 34 (rfc (0, 0))) (u x : Value) :
    SFin b p t H r i v w ((w6.setCell ⟨w.heap.size + 4, 0, none⟩ u).setCell ⟨w.heap.size + 4, 1, none⟩ x) ∧ Bk w6 (w.heap.size + 4) 34 (rfc (0, 0)) := by
  obtain ⟨h1, h2, h3⟩ := hs
  have hlp := h.pt
  have k1 : Kept (· = w.heap.size + 4) w6 ((w6.setCell ⟨w.heap.size + 4, 0, none⟩ u).setCell ⟨w.heap.size + 4, 1, none⟩ x) := ((Kept.refl _ w6).put1 0 _).put1 1 _
  have k2 : Kept (fun z => z = p ∨ z = B) w w6 := (Kept.of_below hb).trans h3
  have k3 : Kept (fun z => (z = p ∨ z = B) ∨ z = w.heap.size + 4) w ((w6.setCell ⟨w.heap.size + 4, 0, none⟩ u).setCell ⟨w.heap.size + 4, 1, none⟩ x) := (k2.mono fun _ _ e => .inl e).trans (k1.mono fun _ _ e => .inr e)
  have hp6 := hp.kept h3 (by rintro (e | e); omega; omega)
  refine ⟨⟨h1.kept k1 fun z hz e => ?_, k3.mono fun z hz e => ?_⟩, hp6⟩
  · subst e
    exact h1.box hp6 (by decide) (by decide) (by decide) hz
  · rcases e with (e | e) | e
    · exact e
    · omega
    · omega
def StoreP (b p t : Nat) (H : Hp) (r : Rf) (i : Int) (v : Rf) (w : World) (e : Ending) (w' : World) : Prop := e = .returned (.tuple #[rfv (H.sR r i v), .int .i64 (H.sE r i v)]) ∧ Hid (SFin b p t H r i v w w')
set_option maxHeartbeats 4000000 in
theorem hstore_ok (b p t : Nat) (H : Hp) (r : Rf) (i : Int) (v : Rf) (hi : -9223372036854775808 ≤ i ∧ i ≤ 9223372036854775807) (hrr : Rr v) (w : World) (h : HW w b p t H) : Calls Try.prog 20 #[.pointer (some ⟨b, 0, none⟩), .agg #[.int .i64 r.1, .int .u32 r.2], .int .i64 i, .agg #[.int .i64 v.1, .int .u32 v.2]] w (StoreP b p t H r i v w) := by
  obtain ⟨s, g⟩ := r
  obtain ⟨vs, vg⟩ := v
  show Calls _ _ #[_, .agg #[.int .i64 s, .int .u32 g], _, .agg #[.int .i64 vs, .int .u32 vg]] w _
  obtain ⟨w2, hw2⟩ : ∃ w2, (((((w.alloc (.cells #[.pointer (some ⟨b, 0, none⟩)] 25)).alloc (.cells (rfc (s, g)) 34)).alloc (.cells #[.int .i64 i] 3)).alloc (.cells (rfc (vs, vg)) 34)).alloc (.cells (rfc (0, 0)) 34)).alloc (.cells (rfc (0, 0)) 34) = w2 := ⟨_, rfl⟩
  obtain ⟨k0, k1, k2, k3, k4, k5, k6, k7⟩ := six_boxes w _ _ _ _ _ _ _ _ _ _ _ _ hw2
  have HW := Lib.hid hw2
  have hh := h.below k7
  have a0 : w2.cell? ⟨w.heap.size, 0, none⟩ = some (.pointer (some ⟨b, 0, none⟩)) := k0.cell 0
  obtain ⟨a1, a2⟩ := k1.rf
  have FN : Hid (∀ W w6 u x, Below w2.heap.size w2 W → StoP b p t (w.heap.size + 5) H (s, g) i (vs, vg) W w6 → SFin b p t H (s, g) i (vs, vg) w ((w6.setCell ⟨w.heap.size + 4, 0, none⟩ u).setCell ⟨w.heap.size + 4, 1, none⟩ x) ∧ Bk w6 (w.heap.size + 4) 34 (rfc (0, 0))) := fun W w6 u x hb hs => sfin_of h (bel2 k7 hb) (Nat.le_refl _) hs (k4.below hb) u x
  by_cases hr : H.chk (s, g) = 0
  · obtain ⟨k, e1, hk, hs, e2, e3⟩ := Hp.chk_zero hr
    simp only at e1 e2
    subst e1
    have FO := Lib.hid (found_store b p t k H g (.pointer (some ⟨w.heap.size + 2, 0, none⟩)) (.pointer (some ⟨w.heap.size, 0, none⟩)) (.pointer (some ⟨w.heap.size + 3, 0, none⟩)) (.pointer (some ⟨w.heap.size + 5, 0, none⟩)) (H.sE ((k : Int), g) i (vs, vg)) (fun W w' => Hid (StoP b p t (w.heap.size + 5) H ((k : Int), g) i (vs, vg) W w')) w2 hh hk hr (fun W hW => by
      by_cases hg : (getR (H.o k) i).2 = 0
      · by_cases hv : H.vE (vs, vg) = 0
        · exact store1_good _ _ _ _ b p t k H g i (vs, vg) W (hh.below hW) hk hs hr hi (k2.below hW) (k5.below hW) (k0.below hW) (k3.below hW) hg hv hrr
        · exact store1_bad _ _ _ _ b p t k H g i (vs, vg) W (hh.below hW) hk hs hr hi (k2.below hW) (k5.below hW) (k0.below hW) (k3.below hW) hg hv
      · exact store1_get _ _ _ _ b p t k H g i (vs, vg) W (hh.below hW) hk hs hr hi (k2.below hW) (k5.below hW) hg))
    unfold StoreP
    generalize H.sE ((k : Int), g) i (vs, vg) = E at *
    obtain ⟨⟨q0, q1⟩, hq⟩ : ∃ q, H.sR ((k : Int), g) i (vs, vg) = q := ⟨_, rfl⟩
    have HQ := Lib.hid hq
    rw [hq]
    simp only [rfc] at HW a1 a2
    show Calls _ _ _ w fun e w' => e = .returned (.tuple #[.agg #[.int .i64 q0, .int .u32 q1], .int .i64 E]) ∧ _
    clear h k0 k1 k2 k3 k4 k5 k7 hw2 hh hr hk hs e2 e3 hrr hi hq
    go_enter Try.func20, Try.ntmps20
    go_upto_region 2 with fail
    rw [HW.out]
    go_wp2_with (go_at_call 41; refine FO.out.mono ?_; rintro e w6 ⟨rfl, W, hb, hS⟩; have hF := FN.out W w6 (.int .i64 q0) (.int .u32 q1) hb hS.out; have hF1 := Lib.hid hF.1; obtain ⟨b0, b1⟩ := hF.2.rf; obtain ⟨f0, f1⟩ := hF.2.rfz; simp only at b0 b1; have hB := hS.out.2.1; rw [HQ.out] at hB; obtain ⟨c0, c1⟩ := hB.rf; clear hF hS hb hB)
    refine bodyPost_ret (v := .tuple #[.agg #[.int .i64 q0, .int .u32 q1], .int .i64 E]) ?_ rfl ⟨rfl, ?_⟩
    · rw [results_cell_tmp rfl]
      go_simp
    · exact hF1
  · have FO := Lib.hid (found_err b p t H (s, g) hr (.func (.func 48) #[] #[.pointer (some ⟨w.heap.size + 2, 0, none⟩), .pointer (some ⟨w.heap.size, 0, none⟩), .pointer (some ⟨w.heap.size + 3, 0, none⟩), .pointer (some ⟨w.heap.size + 5, 0, none⟩)]) w2 hh)
    have hE : H.sE (s, g) i (vs, vg) = H.chk (s, g) := by unfold Hp.sE; rw [if_neg hr]
    have hR : H.sR (s, g) i (vs, vg) = (0, 0) := by unfold Hp.sR; rw [if_neg (by rw [hE]; exact hr)]
    have hS : H.stored (s, g) i (vs, vg) = H := by unfold Hp.stored; rw [if_neg (by rw [hE]; exact hr)]
    have FB : Hid (∀ W, Below w2.heap.size w2 W → StoP b p t (w.heap.size + 5) H (s, g) i (vs, vg) W W) := fun W hb => by
      unfold StoP
      rw [hS, hR]
      exact ⟨hh.below hb, k5.below hb, Kept.refl _ _⟩
    unfold StoreP
    rw [hE, hR]
    have K5 := Lib.hid k5
    generalize H.chk (s, g) = E at *
    simp only [rfc] at HW a1 a2
    show Calls _ _ _ w fun e w' => e = .returned (.tuple #[.agg #[.int .i64 0, .int .u32 0], .int .i64 E]) ∧ _
    clear h k0 k1 k2 k3 k4 k5 k7 hw2 hh hr hE hR hS hrr hi
    go_enter Try.func20, Try.ntmps20
    go_upto_region 2 with fail
    rw [HW.out]
    go_wp2_with (go_at_call 41; refine FO.out.mono ?_; rintro e w6 ⟨rfl, hb⟩; have hF := FN.out w6 w6 (.int .i64 0) (.int .u32 0) hb (FB.out w6 hb); have hF1 := Lib.hid hF.1; obtain ⟨b0, b1⟩ := hF.2.rf; obtain ⟨f0, f1⟩ := hF.2.rfz; simp only at b0 b1; obtain ⟨c0, c1⟩ := (K5.out.below hb).rf; simp only at c0 c1; clear hF hb)
    refine bodyPost_ret (v := .tuple #[.agg #[.int .i64 0, .int .u32 0], .int .i64 E]) ?_ rfl ⟨rfl, ?_⟩
    · rw [results_cell_tmp rfl]
      go_simp
    · exact hF1
end Go.Proofs.Ytfnhkapbfgofkaa
