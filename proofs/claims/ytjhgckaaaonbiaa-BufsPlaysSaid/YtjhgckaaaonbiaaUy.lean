/- What an api.Outer, a []Turn and a []Step among the arguments hold. -/
import Derived.Test.YtjhgckaaaonbiaaUk
import Derived.ProofKit
import Derived.OpenShut
import Derived.Stop.Joined
import Derived.Deep.SlicePairs
import Derived.Lib.SmallJoins
import Derived.SizedLaws
import Derived.Carry
namespace Go.Proofs.Ytjhgckaaaonbiaa
open Go.ChangeShapes Go.WideShapes Go.ChangeAt Go.RowKit

theorem own : ownKnob Try.prog.godebug = none := by kernel_rfl
theorem laidOut : laidOutB Try.prog = true := by kernel_rfl
set_option maxRecDepth 100000 in
theorem outer_of {H : Type} {enc : TypeId × Value → H} {W : World} {r : Reach} {b0 : Nat} {v : Value} {d : DataW H} {p : List MemPlace} (hv : Value.okWide Try.prog W r b0 34 v) (h : DataW.Trod enc Try.prog W 0 (fun _ => true) true 34 v d p) : ∃ i j g : Int, v = .agg #[.int .i64 i, .int .i64 j, .int .u32 g] ∧ RgO i j g := by
  obtain ⟨c0, c1, c2, y0, y1, y2, m, rfl, _, _, h0, h1, h2⟩ := Go.Joins.open_agg3 Try.underlying34 (by kernel_rfl) (by kernel_rfl) hv h
  obtain ⟨x, e1, _, w1⟩ := DataW.trod_int (t := 3) Try.underlying3 h0
  obtain ⟨y, e2, _, w2⟩ := DataW.trod_int (t := 3) Try.underlying3 h1
  obtain ⟨z, e3, _, w3⟩ := DataW.trod_int (t := 22) Try.underlying22 h2
  simp at e1 e2 e3
  subst e1 e2 e3
  have q1 := bounds_i64 w1
  have q2 := bounds_i64 w2
  have q3 := bounds_u32 w3
  exact ⟨x, y, z, rfl, ⟨q1.1, q1.2, q2.1, q2.2, q3.1, q3.2⟩⟩
/-- What a parameter of turns holds. -/
structure Turns (w : World) (a : Option Addr) (len : Nat) (c : Nat → Bool) (q : Nat → Nat) : Prop where
  at_ : 0 < len → ∃ b off, a = some ⟨b, off, none⟩ ∧ b < w.heap.size ∧ ∀ j, j < len → w.cell? ⟨b, off + j * 2, none⟩ = some (.bool (c j)) ∧ w.cell? ⟨b, off + j * 2 + 1, none⟩ = some (.int .u16 (q j))
  bd : ∀ j, j < len → q j ≤ 65535
theorem Turns.below {w w' : World} {a : Option Addr} {len : Nat} {c : Nat → Bool} {q : Nat → Nat} (h : Turns w a len c q) (hb : Below w.heap.size w w') : Turns w' a len c q :=
  ⟨fun h0 => by obtain ⟨b, off, e, h1, h2⟩ := h.at_ h0; exact ⟨b, off, e, Nat.lt_of_lt_of_le h1 hb.size, fun j hj => ⟨(hb.cell (p := ⟨b, off + j * 2, none⟩) h1).trans (h2 j hj).1, (hb.cell (p := ⟨b, off + j * 2 + 1, none⟩) h1).trans (h2 j hj).2⟩⟩, h.bd⟩
theorem turns_of {H : Type} {enc : TypeId × Value → H} {W : World} {a : Option Addr} {len cap : Nat} {d : DataW H} {p : List MemPlace} (h : DataW.Trod enc Try.prog W 0 (fun _ => true) true 54 (.slice a len cap) d p) : len ≤ cap ∧ cap ≤ 9223372036854775807 ∧ ∃ c q, Turns W a len c q := by
  obtain ⟨fuel, hf⟩ := h
  rcases Go.Deep.open_slice_pairs Try.underlying54 Try.underlying58 (by kernel_rfl) rfl rfl (by kernel_rfl) (by kernel_rfl) hf with ⟨hcs, hx⟩ | ⟨a', len', cap', m, n, V0, V1, D0, D1, P0, P1, hcs, _, hl, hm, hmm, hx, hi⟩
  · simp [Value.cells] at hcs
    obtain ⟨rfl, rfl, rfl⟩ := hcs
    exact ⟨Nat.le_refl _, by omega, fun _ => false, fun _ => 0, fun h => by omega, fun _ _ => by omega⟩
  · simp [Value.cells] at hcs
    obtain ⟨rfl, rfl, rfl⟩ := hcs
    simp only [if_true] at hmm
    have each : ∀ j, j < len → ∃ t : Bool × Int, (0 ≤ t.2 ∧ t.2 ≤ 65535) ∧ W.cell? (a'.add (j * 2)) = some (.bool t.1) ∧ W.cell? (a'.add (j * 2 + 1)) = some (.int .u16 t.2) := by
      intro j hj
      obtain ⟨h0, h1, h2, h3⟩ := hi j (by omega)
      obtain ⟨x, e1, _⟩ := DataW.trod_bool (t := 4) Try.underlying4 h2
      obtain ⟨y, e2, _, w2⟩ := DataW.trod_int (t := 53) Try.underlying53 h3
      simp at e1 e2
      rw [e1] at h0
      rw [e2] at h1
      exact ⟨(x, y), bounds_u16 w2, h0, h1⟩
    obtain ⟨t, ht⟩ := Go.Deep.choose_lt each
    refine ⟨hl, by unfold maxLen at hm; omega, fun j => (t j).1, fun j => (t j).2.toNat, fun h0 => ?_, fun j hj => ?_⟩
    · obtain ⟨b, off, spot⟩ := a'
      have hspot : spot = none := by simpa [Addr.add] using World.cell?_spot (ht 0 h0).2.1
      subst hspot
      refine ⟨b, off, rfl, World.block_lt_of_cell? _ _ (ht 0 h0).2.1, fun j hj => ?_⟩
      obtain ⟨⟨g1, _⟩, h1, h2⟩ := ht j hj
      rw [add_plain] at h1 h2
      rw [Int.toNat_of_nonneg g1]
      exact ⟨h1, by rw [Nat.add_assoc]; exact h2⟩
    · obtain ⟨⟨g1, g2⟩, _⟩ := ht j hj
      show (t j).2.toNat ≤ 65535
      omega
/-- What a parameter of steps holds: what to do, the number, the resource. -/
structure St10 (w : World) (a : Option Addr) (len : Nat) (dos ns : Nat → Int) (o : Nat → Ro) : Prop where
  at_ : 0 < len → ∃ b off, a = some ⟨b, off, none⟩ ∧ b < w.heap.size ∧ ∀ j, j < len → w.cell? ⟨b, off + j * 5, none⟩ = some (.int .i64 (dos j)) ∧ w.cell? ⟨b, off + j * 5 + 1, none⟩ = some (.int .i64 (ns j)) ∧ w.cell? ⟨b, off + j * 5 + 2, none⟩ = some (.int .i64 (o j).k) ∧ w.cell? ⟨b, off + j * 5 + 3, none⟩ = some (.int .i64 (o j).i) ∧ w.cell? ⟨b, off + j * 5 + 4, none⟩ = some (.int .u32 (o j).g)
  bd : ∀ j, j < len → (-9223372036854775808 ≤ ns j ∧ ns j ≤ 9223372036854775807) ∧ (o j).Rg
theorem St10.below {w w' : World} {a : Option Addr} {len : Nat} {dos ns : Nat → Int} {o : Nat → Ro} (h : St10 w a len dos ns o) (hb : Below w.heap.size w w') : St10 w' a len dos ns o :=
  ⟨fun h0 => by
    obtain ⟨b, off, e, h1, h2⟩ := h.at_ h0
    refine ⟨b, off, e, Nat.lt_of_lt_of_le h1 hb.size, fun j hj => ?_⟩
    obtain ⟨k0, k1, k2, k3, k4⟩ := h2 j hj
    exact ⟨(hb.cell (p := ⟨b, off + j * 5, none⟩) h1).trans k0, (hb.cell (p := ⟨b, off + j * 5 + 1, none⟩) h1).trans k1, (hb.cell (p := ⟨b, off + j * 5 + 2, none⟩) h1).trans k2, (hb.cell (p := ⟨b, off + j * 5 + 3, none⟩) h1).trans k3, (hb.cell (p := ⟨b, off + j * 5 + 4, none⟩) h1).trans k4⟩, h.bd⟩
instance : Inhabited Ro := ⟨⟨0, 0, 0⟩⟩
set_option maxRecDepth 1000000 in
theorem steps_of {H : Type} {enc : TypeId × Value → H} {W : World} {a : Option Addr} {len cap : Nat} {d : DataW H} {p : List MemPlace} (h : DataW.Trod enc Try.prog W 0 (fun _ => true) true 23 (.slice a len cap) d p) : len ≤ cap ∧ cap ≤ 9223372036854775807 ∧ ∃ dos ns o, St10 W a len dos ns o := by
  obtain ⟨fuel, hf⟩ := h
  rcases Go.Deep.open_slice Try.underlying23 hf with ⟨hcs, hx⟩ | ⟨a', len', cap', m, n, D, Pl, hcs, _, hl, hm, hmm, _, hi⟩
  · simp [Value.cells] at hcs
    obtain ⟨rfl, rfl, rfl⟩ := hcs
    exact ⟨Nat.le_refl _, by omega, fun _ => 0, fun _ => 0, fun _ => ⟨0, 0, 0⟩, fun h => by omega, fun _ _ => by omega⟩
  · simp [Value.cells] at hcs
    obtain ⟨rfl, rfl, rfl⟩ := hcs
    simp only [if_true] at hmm
    have hce : Try.prog.cellsOf 36 = 5 := by kernel_rfl
    have each : ∀ j, j < len → ∃ t : Int × Int × Ro, W.cell? (a'.add (j * 5)) = some (.int .i64 t.1) ∧ W.cell? (a'.add (j * 5 + 1)) = some (.int .i64 t.2.1) ∧ W.cell? (a'.add (j * 5 + 2)) = some (.int .i64 t.2.2.k) ∧ W.cell? (a'.add (j * 5 + 3)) = some (.int .i64 t.2.2.i) ∧ W.cell? (a'.add (j * 5 + 4)) = some (.int .u32 t.2.2.g) ∧ (-9223372036854775808 ≤ t.2.1 ∧ t.2.1 ≤ 9223372036854775807) ∧ t.2.2.Rg := by
      intro j hj
      obtain ⟨cs', h1, h2⟩ := hi j (by omega)
      rw [hce] at h1
      obtain ⟨_, hlen, hcell⟩ := World.cells?_some h1
      obtain ⟨xs, k, _, _, _, hxl, hfl⟩ := DataW.trod_struct Try.underlying36 h2
      match xs, hxl, cs', hlen with
      | [y0, y1, y2], _, [v0, v1, v2, v3, v4], _ =>
        have g0 := hfl 0 _ rfl
        have g1 := hfl 1 _ rfl
        have g2 := hfl 2 _ rfl
        have c1 : Try.prog.cellsOf 3 = 1 := by kernel_rfl
        have c2 : Try.prog.cellsOf 34 = 3 := by kernel_rfl
        have c3 : Try.prog.cellsOf 22 = 1 := by kernel_rfl
        simp [c1, c2] at g0 g1 g2
        obtain ⟨x, e1, _, _⟩ := DataW.trod_int (t := 3) Try.underlying3 g0
        obtain ⟨y, e2, _, w2⟩ := DataW.trod_int (t := 3) Try.underlying3 g1
        obtain ⟨zs, k2, _, _, _, hzl, hgl⟩ := DataW.trod_struct Try.underlying34 g2
        match zs, hzl with
        | [z0, z1, z2], _ =>
          have q0 := hgl 0 _ rfl
          have q1 := hgl 1 _ rfl
          have q2 := hgl 2 _ rfl
          simp [c1, c3] at q0 q1 q2
          obtain ⟨u0, f0, _, p0⟩ := DataW.trod_int (t := 3) Try.underlying3 q0
          obtain ⟨u1, f1, _, p1⟩ := DataW.trod_int (t := 3) Try.underlying3 q1
          obtain ⟨u2, f2, _, p2⟩ := DataW.trod_int (t := 22) Try.underlying22 q2
          simp at e1 e2 f0 f1 f2
          subst e1 e2 f0 f1 f2
          have r0 := hcell 0 (by omega)
          have r1 := hcell 1 (by omega)
          have r2 := hcell 2 (by omega)
          have r3 := hcell 3 (by omega)
          have r4 := hcell 4 (by omega)
          rw [Go.Deep.add_add] at r0 r1 r2 r3 r4
          have b0 := bounds_i64 p0
          have b1 := bounds_i64 p1
          have b2 := bounds_u32 p2
          exact ⟨(x, y, ⟨u0, u1, u2⟩), by simpa using r0, by simpa using r1, by simpa using r2, by simpa using r3, by simpa using r4, bounds_i64 w2, ⟨b0.1, b0.2, b1.1, b1.2, b2.1, b2.2⟩⟩
    obtain ⟨t, ht⟩ := Go.Deep.choose_lt each
    refine ⟨hl, by unfold maxLen at hm; omega, fun j => (t j).1, fun j => (t j).2.1, fun j => (t j).2.2, fun h0 => ?_, fun j hj => (ht j hj).2.2.2.2.2⟩
    obtain ⟨b, off, spot⟩ := a'
    have hspot : spot = none := by simpa [Addr.add] using World.cell?_spot (ht 0 h0).1
    subst hspot
    refine ⟨b, off, rfl, World.block_lt_of_cell? _ _ (ht 0 h0).1, fun j hj => ?_⟩
    obtain ⟨h1, h2, h3, h4, h5, _⟩ := ht j hj
    rw [add_plain] at h1 h2 h3 h4 h5
    exact ⟨h1, by rw [Nat.add_assoc]; exact h2, by rw [Nat.add_assoc]; exact h3, by rw [Nat.add_assoc]; exact h4, by rw [Nat.add_assoc]; exact h5⟩
end Go.Proofs.Ytjhgckaaaonbiaa
