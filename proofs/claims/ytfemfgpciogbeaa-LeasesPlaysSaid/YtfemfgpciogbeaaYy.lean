/- What an api.Outer, a Move, a []Move and a []Step among the arguments hold. -/
import Derived.Test.YtfemfgpciogbeaaYk
import Derived.ProofKit
import Derived.OpenShut
import Derived.Stop.Joined
import Derived.Deep.SlicePairs
import Derived.Lib.SmallJoins
import Derived.SizedLaws
import Derived.Carry
namespace Go.Proofs.Ytfemfgpciogbeaa
open Go.ChangeShapes Go.WideShapes Go.ChangeAt Go.RowKit

theorem own : ownKnob Try.prog.godebug = none := by kernel_rfl
theorem laidOut : laidOutB Try.prog = true := by kernel_rfl
set_option maxRecDepth 100000 in
theorem outer_of {H : Type} {enc : TypeId × Value → H} {W : World} {r : Reach} {b0 : Nat} {v : Value} {d : DataW H} {p : List MemPlace} (hv : Value.okWide Try.prog W r b0 33 v) (h : DataW.Trod enc Try.prog W 0 (fun _ => true) true 33 v d p) : ∃ i j g : Int, v = .agg #[.int .i64 i, .int .i64 j, .int .u32 g] ∧ RgO i j g := by
  obtain ⟨c0, c1, c2, y0, y1, y2, m, rfl, _, _, h0, h1, h2⟩ := Go.Joins.open_agg3 Try.underlying33 (by kernel_rfl) (by kernel_rfl) hv h
  obtain ⟨x, e1, _, w1⟩ := DataW.trod_int (t := 3) Try.underlying3 h0
  obtain ⟨y, e2, _, w2⟩ := DataW.trod_int (t := 3) Try.underlying3 h1
  obtain ⟨z, e3, _, w3⟩ := DataW.trod_int (t := 22) Try.underlying22 h2
  simp at e1 e2 e3
  subst e1 e2 e3
  have q1 := bounds_i64 w1
  have q2 := bounds_i64 w2
  have q3 := bounds_u32 w3
  exact ⟨x, y, z, rfl, ⟨q1.1, q1.2, q2.1, q2.2, q3.1, q3.2⟩⟩
set_option maxRecDepth 100000 in
theorem move_of {H : Type} {enc : TypeId × Value → H} {W : World} {r : Reach} {b0 : Nat} {v : Value} {d : DataW H} {p : List MemPlace} (hv : Value.okWide Try.prog W r b0 68 v) (h : DataW.Trod enc Try.prog W 0 (fun _ => true) true 68 v d p) : ∃ i j k l : Nat, v = .agg #[.int .u8 i, .int .u8 j, .int .u8 k, .int .u8 l] ∧ i ≤ 255 ∧ j ≤ 255 ∧ k ≤ 255 ∧ l ≤ 255 := by
  obtain ⟨c0, c1, c2, c3, y0, y1, y2, y3, m, rfl, _, _, h0, h1, h2, h3⟩ := Go.Joins.open_agg4 Try.underlying68 (by kernel_rfl) (by kernel_rfl) hv h
  obtain ⟨x, e1, _, w1⟩ := DataW.trod_int (t := 5) Try.underlying5 h0
  obtain ⟨y, e2, _, w2⟩ := DataW.trod_int (t := 5) Try.underlying5 h1
  obtain ⟨z, e3, _, w3⟩ := DataW.trod_int (t := 5) Try.underlying5 h2
  obtain ⟨u, e4, _, w4⟩ := DataW.trod_int (t := 5) Try.underlying5 h3
  simp at e1 e2 e3 e4
  subst e1 e2 e3 e4
  have q1 := bounds_u8 w1
  have q2 := bounds_u8 w2
  have q3 := bounds_u8 w3
  have q4 := bounds_u8 w4
  obtain ⟨x, rfl⟩ := Int.eq_ofNat_of_zero_le q1.1
  obtain ⟨y, rfl⟩ := Int.eq_ofNat_of_zero_le q2.1
  obtain ⟨z, rfl⟩ := Int.eq_ofNat_of_zero_le q3.1
  obtain ⟨u, rfl⟩ := Int.eq_ofNat_of_zero_le q4.1
  exact ⟨x, y, z, u, rfl, by omega, by omega, by omega, by omega⟩
/-- A move by numbers. -/
structure Mv where
  wait : Nat
  kind : Nat
  which : Nat
  ticks : Nat
def Mv.Ok (m : Mv) : Prop := m.wait ≤ 255 ∧ m.kind ≤ 255 ∧ m.which ≤ 255 ∧ m.ticks ≤ 255
instance : Inhabited Ro := ⟨⟨0, 0, 0⟩⟩
instance : Inhabited Mv := ⟨⟨0, 0, 0, 0⟩⟩
/-- What a parameter of moves holds. -/
structure Mvs (w : World) (a : Option Addr) (len : Nat) (m : Nat → Mv) : Prop where
  at_ : 0 < len → ∃ b off, a = some ⟨b, off, none⟩ ∧ b < w.heap.size ∧ ∀ j, j < len → w.cell? ⟨b, off + j * 4, none⟩ = some (.int .u8 (m j).wait) ∧ w.cell? ⟨b, off + j * 4 + 1, none⟩ = some (.int .u8 (m j).kind) ∧ w.cell? ⟨b, off + j * 4 + 2, none⟩ = some (.int .u8 (m j).which) ∧ w.cell? ⟨b, off + j * 4 + 3, none⟩ = some (.int .u8 (m j).ticks)
  bd : ∀ j, j < len → (m j).Ok
theorem Mvs.below {w w' : World} {a : Option Addr} {len : Nat} {m : Nat → Mv} (h : Mvs w a len m) (hb : Below w.heap.size w w') : Mvs w' a len m :=
  ⟨fun h0 => by
    obtain ⟨b, off, e, h1, h2⟩ := h.at_ h0
    refine ⟨b, off, e, Nat.lt_of_lt_of_le h1 hb.size, fun j hj => ?_⟩
    obtain ⟨k0, k1, k2, k3⟩ := h2 j hj
    exact ⟨cell_keeps hb k0, cell_keeps hb k1, cell_keeps hb k2, cell_keeps hb k3⟩, h.bd⟩
set_option maxRecDepth 1000000 in
theorem moves_of {H : Type} {enc : TypeId × Value → H} {W : World} {a : Option Addr} {len cap : Nat} {d : DataW H} {p : List MemPlace} (h : DataW.Trod enc Try.prog W 0 (fun _ => true) true 57 (.slice a len cap) d p) : len ≤ cap ∧ cap ≤ 9223372036854775807 ∧ ∃ m, Mvs W a len m := by
  obtain ⟨fuel, hf⟩ := h
  rcases Go.Deep.open_slice Try.underlying57 hf with ⟨hcs, hx⟩ | ⟨a', len', cap', m, n, D, Pl, hcs, _, hl, hm, hmm, _, hi⟩
  · simp [Value.cells] at hcs
    obtain ⟨rfl, rfl, rfl⟩ := hcs
    exact ⟨Nat.le_refl _, by omega, fun _ => ⟨0, 0, 0, 0⟩, fun h => by omega, fun _ _ => by omega⟩
  · simp [Value.cells] at hcs
    obtain ⟨rfl, rfl, rfl⟩ := hcs
    simp only [if_true] at hmm
    have hce : Try.prog.cellsOf 68 = 4 := by kernel_rfl
    have each : ∀ j, j < len → ∃ t : Mv, W.cell? (a'.add (j * 4)) = some (.int .u8 t.wait) ∧ W.cell? (a'.add (j * 4 + 1)) = some (.int .u8 t.kind) ∧ W.cell? (a'.add (j * 4 + 2)) = some (.int .u8 t.which) ∧ W.cell? (a'.add (j * 4 + 3)) = some (.int .u8 t.ticks) ∧ t.Ok := by
      intro j hj
      obtain ⟨cs', h1, h2⟩ := hi j (by omega)
      rw [hce] at h1
      obtain ⟨_, hlen, hcell⟩ := World.cells?_some h1
      obtain ⟨xs, k, _, _, _, hxl, hfl⟩ := DataW.trod_struct Try.underlying68 h2
      match xs, hxl, cs', hlen with
      | [y0, y1, y2, y3], _, [v0, v1, v2, v3], _ =>
        have g0 := hfl 0 _ rfl
        have g1 := hfl 1 _ rfl
        have g2 := hfl 2 _ rfl
        have g3 := hfl 3 _ rfl
        have c1 : Try.prog.cellsOf 5 = 1 := by kernel_rfl
        simp [c1] at g0 g1 g2 g3
        obtain ⟨u0, f0, _, p0⟩ := DataW.trod_int (t := 5) Try.underlying5 g0
        obtain ⟨u1, f1, _, p1⟩ := DataW.trod_int (t := 5) Try.underlying5 g1
        obtain ⟨u2, f2, _, p2⟩ := DataW.trod_int (t := 5) Try.underlying5 g2
        obtain ⟨u3, f3, _, p3⟩ := DataW.trod_int (t := 5) Try.underlying5 g3
        simp at f0 f1 f2 f3
        subst f0 f1 f2 f3
        have r0 := hcell 0 (by omega)
        have r1 := hcell 1 (by omega)
        have r2 := hcell 2 (by omega)
        have r3 := hcell 3 (by omega)
        rw [Go.Deep.add_add] at r0 r1 r2 r3
        have b0 := bounds_u8 p0
        have b1 := bounds_u8 p1
        have b2 := bounds_u8 p2
        have b3 := bounds_u8 p3
        obtain ⟨u0, rfl⟩ := Int.eq_ofNat_of_zero_le b0.1
        obtain ⟨u1, rfl⟩ := Int.eq_ofNat_of_zero_le b1.1
        obtain ⟨u2, rfl⟩ := Int.eq_ofNat_of_zero_le b2.1
        obtain ⟨u3, rfl⟩ := Int.eq_ofNat_of_zero_le b3.1
        exact ⟨⟨u0, u1, u2, u3⟩, by simpa using r0, by simpa using r1, by simpa using r2, by simpa using r3, by show u0 ≤ 255; omega, by show u1 ≤ 255; omega, by show u2 ≤ 255; omega, by show u3 ≤ 255; omega⟩
    obtain ⟨t, ht⟩ := Go.Deep.choose_lt each
    refine ⟨hl, by unfold maxLen at hm; omega, t, fun h0 => ?_, fun j hj => (ht j hj).2.2.2.2⟩
    obtain ⟨b, off, spot⟩ := a'
    have hspot : spot = none := by simpa [Addr.add] using World.cell?_spot (ht 0 h0).1
    subst hspot
    refine ⟨b, off, rfl, World.block_lt_of_cell? _ _ (ht 0 h0).1, fun j hj => ?_⟩
    obtain ⟨h1, h2, h3, h4, _⟩ := ht j hj
    rw [add_plain] at h1 h2 h3 h4
    exact ⟨h1, by rw [Nat.add_assoc]; exact h2, by rw [Nat.add_assoc]; exact h3, by rw [Nat.add_assoc]; exact h4⟩
/-- A step: what to do, the resource, the ticks, the time. -/
structure Sp where
  d : Nat
  o : Ro
  x : Int
  y : Int
structure Sp.Ok (s : Sp) : Prop where
  d : s.d ≤ 255
  o : s.o.Rg
  x : I64 s.x
  y : I64 s.y
instance : Inhabited Sp := ⟨⟨0, default, 0, 0⟩⟩
/-- What a parameter of steps holds. -/
structure Sps (w : World) (a : Option Addr) (len : Nat) (s : Nat → Sp) : Prop where
  at_ : 0 < len → ∃ b off, a = some ⟨b, off, none⟩ ∧ b < w.heap.size ∧ ∀ j, j < len → w.cell? ⟨b, off + j * 6, none⟩ = some (.int .u8 (s j).d) ∧ w.cell? ⟨b, off + j * 6 + 1, none⟩ = some (.int .i64 (s j).o.k) ∧ w.cell? ⟨b, off + j * 6 + 2, none⟩ = some (.int .i64 (s j).o.i) ∧ w.cell? ⟨b, off + j * 6 + 3, none⟩ = some (.int .u32 (s j).o.g) ∧ w.cell? ⟨b, off + j * 6 + 4, none⟩ = some (.int .i64 (s j).x) ∧ w.cell? ⟨b, off + j * 6 + 5, none⟩ = some (.int .i64 (s j).y)
  bd : ∀ j, j < len → (s j).Ok
theorem Sps.below {w w' : World} {a : Option Addr} {len : Nat} {s : Nat → Sp} (h : Sps w a len s) (hb : Below w.heap.size w w') : Sps w' a len s :=
  ⟨fun h0 => by
    obtain ⟨b, off, e, h1, h2⟩ := h.at_ h0
    refine ⟨b, off, e, Nat.lt_of_lt_of_le h1 hb.size, fun j hj => ?_⟩
    obtain ⟨k0, k1, k2, k3, k4, k5⟩ := h2 j hj
    exact ⟨cell_keeps hb k0, cell_keeps hb k1, cell_keeps hb k2, cell_keeps hb k3, cell_keeps hb k4, cell_keeps hb k5⟩, h.bd⟩
set_option maxRecDepth 1000000 in
theorem steps_of {H : Type} {enc : TypeId × Value → H} {W : World} {a : Option Addr} {len cap : Nat} {d : DataW H} {p : List MemPlace} (h : DataW.Trod enc Try.prog W 0 (fun _ => true) true 23 (.slice a len cap) d p) : len ≤ cap ∧ cap ≤ 9223372036854775807 ∧ ∃ s, Sps W a len s := by
  obtain ⟨fuel, hf⟩ := h
  rcases Go.Deep.open_slice Try.underlying23 hf with ⟨hcs, hx⟩ | ⟨a', len', cap', m, n, D, Pl, hcs, _, hl, hm, hmm, _, hi⟩
  · simp [Value.cells] at hcs
    obtain ⟨rfl, rfl, rfl⟩ := hcs
    exact ⟨Nat.le_refl _, by omega, fun _ => default, fun h => by omega, fun _ _ => by omega⟩
  · simp [Value.cells] at hcs
    obtain ⟨rfl, rfl, rfl⟩ := hcs
    simp only [if_true] at hmm
    have hce : Try.prog.cellsOf 35 = 6 := by kernel_rfl
    have each : ∀ j, j < len → ∃ t : Sp, W.cell? (a'.add (j * 6)) = some (.int .u8 t.d) ∧ W.cell? (a'.add (j * 6 + 1)) = some (.int .i64 t.o.k) ∧ W.cell? (a'.add (j * 6 + 2)) = some (.int .i64 t.o.i) ∧ W.cell? (a'.add (j * 6 + 3)) = some (.int .u32 t.o.g) ∧ W.cell? (a'.add (j * 6 + 4)) = some (.int .i64 t.x) ∧ W.cell? (a'.add (j * 6 + 5)) = some (.int .i64 t.y) ∧ t.Ok := by
      intro j hj
      obtain ⟨cs', h1, h2⟩ := hi j (by omega)
      rw [hce] at h1
      obtain ⟨_, hlen, hcell⟩ := World.cells?_some h1
      obtain ⟨xs, k, _, _, _, hxl, hfl⟩ := DataW.trod_struct Try.underlying35 h2
      match xs, hxl, cs', hlen with
      | [y0, y1, y2, y3], _, [v0, v1, v2, v3, v4, v5], _ =>
        have g0 := hfl 0 _ rfl
        have g1 := hfl 1 _ rfl
        have g2 := hfl 2 _ rfl
        have g3 := hfl 3 _ rfl
        have c1 : Try.prog.cellsOf 5 = 1 := by kernel_rfl
        have c2 : Try.prog.cellsOf 33 = 3 := by kernel_rfl
        have c3 : Try.prog.cellsOf 2 = 1 := by kernel_rfl
        have c4 : Try.prog.cellsOf 3 = 1 := by kernel_rfl
        have c5 : Try.prog.cellsOf 22 = 1 := by kernel_rfl
        simp [c1, c2, c3] at g0 g1 g2 g3
        obtain ⟨x, e1, _, w1⟩ := DataW.trod_int (t := 5) Try.underlying5 g0
        obtain ⟨y, e2, _, w2⟩ := DataW.trod_int (t := 2) Try.underlying2 g2
        obtain ⟨z, e3, _, w3⟩ := DataW.trod_int (t := 2) Try.underlying2 g3
        obtain ⟨zs, k2, _, _, _, hzl, hgl⟩ := DataW.trod_struct Try.underlying33 g1
        match zs, hzl with
        | [z0, z1, z2], _ =>
          have q0 := hgl 0 _ rfl
          have q1 := hgl 1 _ rfl
          have q2 := hgl 2 _ rfl
          simp [c4, c5] at q0 q1 q2
          obtain ⟨u0, f0, _, p0⟩ := DataW.trod_int (t := 3) Try.underlying3 q0
          obtain ⟨u1, f1, _, p1⟩ := DataW.trod_int (t := 3) Try.underlying3 q1
          obtain ⟨u2, f2, _, p2⟩ := DataW.trod_int (t := 22) Try.underlying22 q2
          simp at e1 e2 e3 f0 f1 f2
          subst e1 e2 e3 f0 f1 f2
          have r0 := hcell 0 (by omega)
          have r1 := hcell 1 (by omega)
          have r2 := hcell 2 (by omega)
          have r3 := hcell 3 (by omega)
          have r4 := hcell 4 (by omega)
          have r5 := hcell 5 (by omega)
          rw [Go.Deep.add_add] at r0 r1 r2 r3 r4 r5
          have b0 := bounds_i64 p0
          have b1 := bounds_i64 p1
          have b2 := bounds_u32 p2
          have b3 := bounds_u8 w1
          obtain ⟨x, rfl⟩ := Int.eq_ofNat_of_zero_le b3.1
          exact ⟨⟨x, ⟨u0, u1, u2⟩, y, z⟩, by simpa using r0, by simpa using r1, by simpa using r2, by simpa using r3, by simpa using r4, by simpa using r5, by show x ≤ 255; omega, ⟨b0.1, b0.2, b1.1, b1.2, b2.1, b2.2⟩, bounds_i64 w2, bounds_i64 w3⟩
    obtain ⟨t, ht⟩ := Go.Deep.choose_lt each
    refine ⟨hl, by unfold maxLen at hm; omega, t, fun h0 => ?_, fun j hj => (ht j hj).2.2.2.2.2.2⟩
    obtain ⟨b, off, spot⟩ := a'
    have hspot : spot = none := by simpa [Addr.add] using World.cell?_spot (ht 0 h0).1
    subst hspot
    refine ⟨b, off, rfl, World.block_lt_of_cell? _ _ (ht 0 h0).1, fun j hj => ?_⟩
    obtain ⟨h1, h2, h3, h4, h5, h6, _⟩ := ht j hj
    rw [add_plain] at h1 h2 h3 h4 h5 h6
    exact ⟨h1, by rw [Nat.add_assoc]; exact h2, by rw [Nat.add_assoc]; exact h3, by rw [Nat.add_assoc]; exact h4, by rw [Nat.add_assoc]; exact h5, by rw [Nat.add_assoc]; exact h6⟩
end Go.Proofs.Ytfemfgpciogbeaa
