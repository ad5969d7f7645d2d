/- Boxes laid one after another; arrays of four numbers in memory; the contracts of the laws' Ref and Made. -/
import Derived.Test.YtmbkhkijmfogcaaDoorNw
import Derived.Test.YtmbkhkijmfogcaaDoorNen
namespace Go.Proofs.YtmbkhkijmfogcaaDoor
open Go.RowKit

theorem one_box (w : World) (a : Array Value) (s : TypeId) {w2 : World} (h : w.alloc (.cells a s) = w2) : Bk w2 w.heap.size s a ∧ w2.heap.size = w.heap.size + 1 ∧ Below w.heap.size w w2 := by
  subst h
  exact ⟨Bk.new _ _ _, by simp, bup _ _⟩
theorem three_boxes (w : World) (a b c : Array Value) (s t u : TypeId) {w2 : World} (h : ((w.alloc (.cells a s)).alloc (.cells b t)).alloc (.cells c u) = w2) :
    Bk w2 w.heap.size s a ∧ Bk w2 (w.heap.size + 1) t b ∧ Bk w2 (w.heap.size + 2) u c ∧ w2.heap.size = w.heap.size + 3 ∧ Below w.heap.size w w2 := by
  obtain ⟨w1, hw1⟩ : ∃ w1, (w.alloc (.cells a s)).alloc (.cells b t) = w1 := ⟨_, rfl⟩
  rw [hw1] at h
  obtain ⟨h1, h2, h3, h4⟩ := two_boxes w a b s t hw1
  obtain ⟨k1, k2, k3⟩ := one_box w1 c u h
  rw [h3] at k1 k2
  exact ⟨h1.below k3, h2.below k3, k1, k2, bel2 h4 k3⟩
def f8c (x : Four) : Array Value := #[.int .u8 x.a, .int .u8 x.b, .int .u8 x.c, .int .u8 x.d]
def f32c (x : Four) : Array Value := #[.int .u32 x.a, .int .u32 x.b, .int .u32 x.c, .int .u32 x.d]
theorem f8c_at (x : Four) (j : Nat) (hj : j < 4) : (f8c x)[j]? = some (.int .u8 (x.at j)) := by
  match j, hj with
  | 0, _ => rfl
  | 1, _ => rfl
  | 2, _ => rfl
  | 3, _ => rfl
theorem f32c_at (x : Four) (j : Nat) (hj : j < 4) : (f32c x)[j]? = some (.int .u32 (x.at j)) := by
  match j, hj with
  | 0, _ => rfl
  | 1, _ => rfl
  | 2, _ => rfl
  | 3, _ => rfl
theorem Bk.four8 {W : World} {b : Nat} {t : TypeId} {x : Four} (h : Bk W b t (f8c x)) : W.cell? ⟨b, 0, none⟩ = some (.int .u8 x.a) ∧ W.cell? ⟨b, 1, none⟩ = some (.int .u8 x.b) ∧ W.cell? ⟨b, 2, none⟩ = some (.int .u8 x.c) ∧ W.cell? ⟨b, 3, none⟩ = some (.int .u8 x.d) := ⟨h.cell 0, h.cell 1, h.cell 2, h.cell 3⟩
theorem Bk.four32 {W : World} {b : Nat} {t : TypeId} {x : Four} (h : Bk W b t (f32c x)) : W.cell? ⟨b, 0, none⟩ = some (.int .u32 x.a) ∧ W.cell? ⟨b, 1, none⟩ = some (.int .u32 x.b) ∧ W.cell? ⟨b, 2, none⟩ = some (.int .u32 x.c) ∧ W.cell? ⟨b, 3, none⟩ = some (.int .u32 x.d) := ⟨h.cell 0, h.cell 1, h.cell 2, h.cell 3⟩

/-- The reference of two numbers, or none. -/
def mkr (s g : Int) : Rf := if g = 0 then (0, 0) else (s, g)
theorem mkr_ok {s g : Int} (hs : 0 ≤ s ∧ s ≤ 255) (hg : 0 ≤ g ∧ g ≤ 4294967295) : RfOk (mkr s g) := by
  unfold mkr
  split
  · exact .inl rfl
  · exact .inr ⟨hs.1, by show s < 256; omega, by show 0 < g; omega, hg.2⟩
set_option maxHeartbeats 1000000 in
theorem ref_ok (s g : Int) (hs : 0 ≤ s ∧ s ≤ 255) (hg : 0 ≤ g ∧ g ≤ 4294967295) (w : World) :
    Calls Tryd.prog 28 #[.int .u8 s, .int .u32 g] w fun e w' => e = .returned (.agg #[.int .i64 (mkr s g).1, .int .u32 (mkr s g).2]) ∧ Below w.heap.size w w' := by
  by_cases h : g = 0
  · subst h
    go_enter Tryd.func28, Tryd.ntmps28
    go_wp2
    refine bodyPost_ret (v := .agg #[.int .i64 0, .int .u32 0]) (by simp [results, Tryd.f28, go_sem]) rfl ⟨rfl, ?_⟩
    exact bup _ _
  · have e : mkr s g = (s, g) := by unfold mkr; rw [if_neg h]
    have HM := Lib.hid e
    have hw : IntKind.i64.wrap s = s := IntWalk.i64_in _ (by omega)
    have hg0 : (g == 0) = false := beq_eq_false_iff_ne.2 h
    clear e h
    go_enter Tryd.func28, Tryd.ntmps28
    go_wp2
    refine bodyPost_ret (v := .agg #[.int .i64 s, .int .u32 g]) (by simp [results, Tryd.f28, go_sem]) rfl ⟨by rw [HM.out], ?_⟩
    exact bup _ _
end Go.Proofs.YtmbkhkijmfogcaaDoor
