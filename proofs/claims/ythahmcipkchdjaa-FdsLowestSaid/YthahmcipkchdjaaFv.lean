/- The state of a table between calls: each call of the program's, told by it. -/
import Derived.Test.YthahmcipkchdjaaFj
namespace Go.Proofs.Ythahmcipkchdjaa
open Go.RowKit

/-- A table of the program's, in memory that was made since w0. -/
structure FSt (w0 w : World) (b k m : Nat) (F : Fb) : Prop where
  f : FW w b k m F
  bel : Below w0.heap.size w0 w
  lo : ∀ g, FFoot b k m g → w0.heap.size ≤ g
section
variable {w0 w w' : World} {b k m : Nat} {F G : Fb}
theorem FSt.quiet (h : FSt w0 w b k m F) (q : Below w.heap.size w w') : FSt w0 w' b k m F := ⟨h.f.below q, bel2 h.bel q, h.lo⟩
theorem FSt.step (h : FSt w0 w b k m F) (q : Kept (FFoot b k m) w w') (hf : FW w' b k m G) : FSt w0 w' b k m G :=
  ⟨hf, h.bel.trans (q.below h.bel.size h.lo), h.lo⟩
theorem FSt.new (h : FNew F w b w') : ∃ k m, FSt w w' b k m F := by
  obtain ⟨k, m, h1, h2, h3⟩ := h
  exact ⟨k, m, h1, h3, h2⟩
/-- A block of resources is no part of a table. -/
theorem FW.box {A : Nat} {t : TypeId} {cs : Array Value} (h : FW w b k m F) (hA : Bk w A t cs) (ht1 : t ≠ 75) (ht2 : t ≠ 106) : ¬ FFoot b k m A := by
  rintro (rfl | rfl | rfl)
  · exact ht1 (hA.uniq h.hb).1
  · exact ht2 (hA.uniq h.tab.bk).1
  · exact h.map.no_cells hA
theorem FSt.box {A : Nat} {cs : Array Value} (h : FSt w0 w b k m F) (hA : Bk w A 25 cs) (q : Kept (FFoot b k m) w w') : Bk w' A 25 cs := hA.kept q (h.f.box hA (by decide) (by decide))
/-- A slice that owns its row. -/
def RowO (w : World) (v : Value) (l : List Ro) : Prop := ∃ base, w.ownsRow base 25 3 v l.length (ocls l)
theorem RowO.rd {v : Value} {l : List Ro} (h : RowO w v l) : RdO w v l := by obtain ⟨_, h⟩ := h; exact RdO.of_own h
theorem RowO.below {v : Value} {l : List Ro} (h : RowO w v l) (q : Below w.heap.size w w') : RowO w' v l := by obtain ⟨_, h⟩ := h; exact ⟨_, own_below h q⟩
theorem RowO.kept {v : Value} {l : List Ro} (h : RowO w v l) (f : FW w b k m F) (q : Kept (FFoot b k m) w w') : RowO w' v l := by
  obtain ⟨base, h⟩ := h
  refine ⟨base, own_same h fun g hg => ?_⟩
  rcases h.2 with ⟨rfl, _⟩ | ⟨g', cap, cur, rfl, _, h2, _⟩
  · cases hg
  · obtain rfl : g' = g := by simpa [Value.ownBlock] using hg
    have hb : Bk w g' 25 cur := h2
    exact q.block g' hb.lt (f.box hb (by decide) (by decide))
/-- Open, at what it answers. -/
theorem open_s (x : Nat) (K I G E : Int) (h : FSt w0 w b k m F) (hx : x ≤ 65535) (e1 : (F.oK : Int) = K) (e2 : (F.oI : Int) = I) (e3 : (F.oG : Int) = G) (e4 : F.oE = E) : Calls Try.prog 14 #[.pointer (some ⟨b, 0, none⟩), .int .i64 x] w fun e w' =>
    e = .returned (.tuple #[.agg #[.int .i64 K, .int .i64 I, .int .u32 G], .int .i64 E]) ∧ Hid (FSt w0 w' b k m (F.opn x)) ∧ Hid (Kept (FFoot b k m) w w') := by
  refine (fopen_ok b k m x F hx w h.f).mono ?_
  rintro e w' ⟨rfl, h1, h2⟩
  exact ⟨by rw [e1, e2, e3, e4], h.step h2 h1, h2⟩
theorem close_s (x y z E : Int) (h : FSt w0 w b k m F) (hr : RgO x y z) (e : F.chk x y z = E) : Calls Try.prog 16 #[.pointer (some ⟨b, 0, none⟩), .agg #[.int .i64 x, .int .i64 y, .int .u32 z]] w fun e w' =>
    e = .returned (.int .i64 E) ∧ Hid (FSt w0 w' b k m (F.closed x y z)) ∧ Hid (Kept (FFoot b k m) w w') := by
  refine (fclose_ok b k m F x y z hr w h.f).mono ?_
  rintro e w' ⟨rfl, h1, h2⟩
  exact ⟨by rw [e], h.step h2 h1, h2⟩
theorem number_s (x y z N E : Int) (h : FSt w0 w b k m F) (hr : RgO x y z) (e1 : F.number x y z = N) (e2 : F.chk x y z = E) : Calls Try.prog 27 #[.pointer (some ⟨b, 0, none⟩), .agg #[.int .i64 x, .int .i64 y, .int .u32 z]] w fun e w' =>
    e = .returned (.tuple #[.int .i64 N, .int .i64 E]) ∧ Hid (FSt w0 w' b k m F) ∧ Hid (Below w.heap.size w w') := by
  refine (fnumber_ok b k m F x y z hr w h.f).mono ?_
  rintro e w' ⟨rfl, h1⟩
  exact ⟨by rw [e1, e2], h.quiet h1, h1⟩
theorem all_s (l : List Ro) (h : FSt w0 w b k m F) (e : F.all = l) : Calls Try.prog 29 #[.pointer (some ⟨b, 0, none⟩)] w fun e w' =>
    ∃ p c, e = .returned (.slice p l.length c) ∧ Hid (RowO w' (.slice p l.length c) l) ∧ Hid (FSt w0 w' b k m F) ∧ Hid (Below w.heap.size w w') := by
  refine (fall_ok b k m F w h.f).mono ?_
  rintro e' w' ⟨p, c, rfl, h1, h2⟩
  subst e
  exact ⟨p, c, rfl, ⟨_, h1⟩, h.quiet h2, h2⟩
end
theorem lfile_ok (i g : Int) (w : World) : Calls Try.prog 32 #[.int .i64 i, .int .u32 g] w fun e w' => e = .returned (.agg #[.int .i64 1, .int .i64 i, .int .u32 g]) ∧ Below w.heap.size w w' := by
  go_enter Try.func32, Try.ntmps32
  go_wp2
  refine bodyPost_ret (v := .agg #[.int .i64 1, .int .i64 i, .int .u32 g]) (by simp [results, Try.results32, go_sem]) rfl ⟨rfl, ?_⟩
  exact (Below.refl _ _).alloc (Nat.le_refl _) _
/-- What stands in one block, read as a slice. -/
theorem RdO.lit {w : World} {g : Nat} {l : List Ro} {cs : Array Value} (hg : Bk w g 25 cs) (hc : cs = (ocls l).toArray) (hl : l.length ≤ 1000) : RdO w (.slice (some ⟨g, 0, none⟩) l.length l.length) l :=
  ⟨_, _, rfl, Nat.le_refl _, by omega, fun e => (by cases e), fun _ => ⟨g, 0, rfl, hg.lt, fun j x hj => by
    rw [Nat.zero_add, hg.cell, hc]; simpa using hj⟩⟩
theorem ob_cells {w : World} {A : Nat} {x y z : Value} (h : Bk w A 25 #[x, y, z]) : w.cell? ⟨A, 0, none⟩ = some x ∧ w.cell? ⟨A, 1, none⟩ = some y ∧ w.cell? ⟨A, 2, none⟩ = some z ∧ A < w.heap.size := ⟨h.cell 0, h.cell 1, h.cell 2, h.lt⟩

theorem cells3 {w : World} {A : Nat} {x y z : Value} (h : Bk w A 25 #[x, y, z]) : w.cell? ⟨A, 0, none⟩ = some x ∧ w.cell? ⟨A, 1, none⟩ = some y ∧ w.cell? ⟨A, 2, none⟩ = some z := ⟨h.cell 0, h.cell 1, h.cell 2⟩
end Go.Proofs.Ythahmcipkchdjaa
