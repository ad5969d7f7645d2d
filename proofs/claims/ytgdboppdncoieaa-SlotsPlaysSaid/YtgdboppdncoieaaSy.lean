/- What a []Turn, a []Step and a Ref among the arguments hold. -/
import Derived.Test.YtgdboppdncoieaaSx
import Derived.ProofKit
import Derived.OpenShut
import Derived.Stop.Joined
import Derived.Deep.SlicePairs
import Derived.Lib.SmallJoins
import Derived.SizedLaws
import Derived.Carry
namespace Go.Proofs.Ytgdboppdncoieaa
open Go.ChangeShapes Go.WideShapes Go.ChangeAt Go.RowKit

theorem own : ownKnob Try.prog.godebug = none := by kernel_rfl
theorem laidOut : laidOutB Try.prog = true := by kernel_rfl
theorem turns_of {H : Type} {enc : TypeId × Value → H} {W : World} {a : Option Addr} {len cap : Nat} {d : DataW H} {p : List MemPlace} (h : DataW.Trod enc Try.prog W 0 (fun _ => true) true 56 (.slice a len cap) d p) : ∃ c q, Turns W a len c q := by
  obtain ⟨fuel, hf⟩ := h
  rcases Go.Deep.open_slice_pairs Try.underlying56 Try.underlying63 (by kernel_rfl) rfl rfl (by kernel_rfl) (by kernel_rfl) hf with ⟨hcs, hx⟩ | ⟨a', len', cap', m, n, V0, V1, D0, D1, P0, P1, hcs, _, hl, hm, hmm, hx, hi⟩
  · simp [Value.cells] at hcs
    obtain ⟨rfl, rfl, rfl⟩ := hcs
    exact ⟨fun _ => false, fun _ => 0, fun h => by omega, fun _ _ => by omega⟩
  · simp [Value.cells] at hcs
    obtain ⟨rfl, rfl, rfl⟩ := hcs
    simp only [if_true] at hmm
    have each : ∀ j, j < len → ∃ t : Bool × Int, (0 ≤ t.2 ∧ t.2 ≤ 255) ∧ W.cell? (a'.add (j * 2)) = some (.bool t.1) ∧ W.cell? (a'.add (j * 2 + 1)) = some (.int .u8 t.2) := by
      intro j hj
      obtain ⟨h0, h1, h2, h3⟩ := hi j (by omega)
      obtain ⟨x, e1, _⟩ := DataW.trod_bool (t := 4) Try.underlying4 h2
      obtain ⟨y, e2, _, w2⟩ := DataW.trod_int (t := 5) Try.underlying5 h3
      simp at e1 e2
      rw [e1] at h0
      rw [e2] at h1
      exact ⟨(x, y), bounds_u8 w2, h0, h1⟩
    obtain ⟨t, ht⟩ := Go.Deep.choose_lt each
    refine ⟨fun j => (t j).1, fun j => (t j).2.toNat, fun h0 => ?_, fun j hj => ?_⟩
    · obtain ⟨b, off, spot⟩ := a'
      have hspot : spot = none := by simpa [Addr.add] using World.cell?_spot (ht 0 h0).2.1
      subst hspot
      refine ⟨b, off, rfl, World.block_lt_of_cell? _ _ (ht 0 h0).2.1, fun j hj => ?_⟩
      obtain ⟨⟨g1, _⟩, h1, h2⟩ := ht j hj
      rw [add_plain] at h1 h2
      rw [Int.toNat_of_nonneg g1]
      exact ⟨h1, by rw [Nat.add_assoc]; exact h2⟩
    · obtain ⟨⟨g1, g2⟩, _⟩ := ht j hj
      show (t j).2.toNat < 256
      omega
theorem ref_of {H : Type} {enc : TypeId × Value → H} {W : World} {r : Reach} {b0 : Nat} {v : Value} {d : DataW H} {p : List MemPlace} (hv : Value.okWide Try.prog W r b0 33 v) (h : DataW.Trod enc Try.prog W 0 (fun _ => true) true 33 v d p) : ∃ i g : Int, v = .agg #[.int .i64 i, .int .u32 g] ∧ (-9223372036854775808 ≤ i ∧ i ≤ 9223372036854775807) ∧ (0 ≤ g ∧ g ≤ 4294967295) := by
  obtain ⟨v0, v1, y0, y1, n, rfl, _, _, h0, h1⟩ := Go.Joins.open_agg2 Try.underlying33 (by kernel_rfl) (by kernel_rfl) hv h
  obtain ⟨x, e1, _, w1⟩ := DataW.trod_int (t := 3) Try.underlying3 h0
  obtain ⟨y, e2, _, w2⟩ := DataW.trod_int (t := 22) Try.underlying22 h1
  simp at e1 e2
  subst e1 e2
  exact ⟨x, y, rfl, bounds_i64 w1, bounds_u32 w2⟩
/-- What the parameter l of SlotsPlays holds: its steps. -/
structure Steps (w : World) (a : Option Addr) (len : Nat) (dos is gs : Nat → Int) : Prop where
  at_ : 0 < len → ∃ b off, a = some ⟨b, off, none⟩ ∧ b < w.heap.size ∧ ∀ j, j < len → w.cell? ⟨b, off + j * 3, none⟩ = some (.int .i64 (dos j)) ∧ w.cell? ⟨b, off + j * 3 + 1, none⟩ = some (.int .i64 (is j)) ∧ w.cell? ⟨b, off + j * 3 + 2, none⟩ = some (.int .u32 (gs j))
  bd : ∀ j, j < len → (-9223372036854775808 ≤ is j ∧ is j ≤ 9223372036854775807) ∧ (0 ≤ gs j ∧ gs j ≤ 4294967295)
theorem Steps.below {w w' : World} {a : Option Addr} {len : Nat} {dos is gs : Nat → Int} (h : Steps w a len dos is gs) (hb : Below w.heap.size w w') : Steps w' a len dos is gs :=
  ⟨fun h0 => by obtain ⟨b, off, e, h1, h2⟩ := h.at_ h0; exact ⟨b, off, e, Nat.lt_of_lt_of_le h1 hb.size, fun j hj => ⟨(hb.cell (p := ⟨b, off + j * 3, none⟩) h1).trans (h2 j hj).1, (hb.cell (p := ⟨b, off + j * 3 + 1, none⟩) h1).trans (h2 j hj).2.1, (hb.cell (p := ⟨b, off + j * 3 + 2, none⟩) h1).trans (h2 j hj).2.2⟩⟩, h.bd⟩
theorem steps_of {H : Type} {enc : TypeId × Value → H} {W : World} {a : Option Addr} {len cap : Nat} {d : DataW H} {p : List MemPlace} (h : DataW.Trod enc Try.prog W 0 (fun _ => true) true 23 (.slice a len cap) d p) : ∃ dos is gs, Steps W a len dos is gs := by
  obtain ⟨fuel, hf⟩ := h
  rcases Go.Deep.open_slice Try.underlying23 hf with ⟨hcs, hx⟩ | ⟨a', len', cap', m, n, D, Pl, hcs, _, hl, hm, hmm, _, hi⟩
  · simp [Value.cells] at hcs
    obtain ⟨rfl, rfl, rfl⟩ := hcs
    exact ⟨fun _ => 0, fun _ => 0, fun _ => 0, fun h => by omega, fun _ _ => by omega⟩
  · simp [Value.cells] at hcs
    obtain ⟨rfl, rfl, rfl⟩ := hcs
    simp only [if_true] at hmm
    have hce : Try.prog.cellsOf 35 = 3 := by kernel_rfl
    have each : ∀ j, j < len → ∃ t : Int × Int × Int, W.cell? (a'.add (j * 3)) = some (.int .i64 t.1) ∧ W.cell? (a'.add (j * 3 + 1)) = some (.int .i64 t.2.1) ∧ W.cell? (a'.add (j * 3 + 2)) = some (.int .u32 t.2.2) ∧ (-9223372036854775808 ≤ t.2.1 ∧ t.2.1 ≤ 9223372036854775807) ∧ (0 ≤ t.2.2 ∧ t.2.2 ≤ 4294967295) := by
      intro j hj
      obtain ⟨cs', h1, h2⟩ := hi j (by omega)
      rw [hce] at h1
      obtain ⟨_, hlen, hcell⟩ := World.cells?_some h1
      obtain ⟨xs, k, _, _, _, hxl, hfl⟩ := DataW.trod_struct Try.underlying35 h2
      match xs, hxl, cs', hlen with
      | [y0, y1], _, [v0, v1, v2], _ =>
        have g0 := hfl 0 _ rfl
        have g1 := hfl 1 _ rfl
        have c1 : Try.prog.cellsOf 3 = 1 := by kernel_rfl
        have c2 : Try.prog.cellsOf 33 = 2 := by kernel_rfl
        have c3 : Try.prog.cellsOf 22 = 1 := by kernel_rfl
        simp [c1, c2] at g0 g1
        obtain ⟨x, e1, _, _⟩ := DataW.trod_int (t := 3) Try.underlying3 g0
        obtain ⟨zs, k2, _, _, _, hzl, hgl⟩ := DataW.trod_struct Try.underlying33 g1
        match zs, hzl with
        | [z0, z1], _ =>
          have q0 := hgl 0 _ rfl
          have q1 := hgl 1 _ rfl
          simp [c1, c3] at q0 q1
          obtain ⟨y, e2, _, w2⟩ := DataW.trod_int (t := 3) Try.underlying3 q0
          obtain ⟨z, e3, _, w3⟩ := DataW.trod_int (t := 22) Try.underlying22 q1
          simp at e1 e2 e3
          subst e1 e2 e3
          have r0 := hcell 0 (by omega)
          have r1 := hcell 1 (by omega)
          have r2 := hcell 2 (by omega)
          rw [Go.Deep.add_add] at r0 r1 r2
          exact ⟨(x, y, z), by simpa using r0, by simpa using r1, by simpa using r2, bounds_i64 w2, bounds_u32 w3⟩
    obtain ⟨t, ht⟩ := Go.Deep.choose_lt each
    refine ⟨fun j => (t j).1, fun j => (t j).2.1, fun j => (t j).2.2, fun h0 => ?_, fun j hj => (ht j hj).2.2.2⟩
    obtain ⟨b, off, spot⟩ := a'
    have hspot : spot = none := by simpa [Addr.add] using World.cell?_spot (ht 0 h0).1
    subst hspot
    refine ⟨b, off, rfl, World.block_lt_of_cell? _ _ (ht 0 h0).1, fun j hj => ?_⟩
    obtain ⟨h1, h2, h3, _⟩ := ht j hj
    rw [add_plain] at h1 h2 h3
    exact ⟨h1, by rw [Nat.add_assoc]; exact h2, by rw [Nat.add_assoc]; exact h3⟩
end Go.Proofs.Ytgdboppdncoieaa
