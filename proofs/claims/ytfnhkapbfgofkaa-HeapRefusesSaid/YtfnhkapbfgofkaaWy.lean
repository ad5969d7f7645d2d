/- What a Step, a Turn, a []Step and a []Turn among the arguments hold. -/
import Derived.Test.YtfnhkapbfgofkaaWk
import Derived.ProofKit
import Derived.OpenShut
import Derived.Stop.Joined
import Derived.Deep.SlicePairs
import Derived.Lib.SmallJoins
import Derived.SizedLaws
import Derived.Carry
namespace Go.Proofs.Ytfnhkapbfgofkaa
open Go.ChangeShapes Go.WideShapes Go.ChangeAt Go.RowKit

theorem own : ownKnob Try.prog.godebug = none := by kernel_rfl
theorem laidOut : laidOutB Try.prog = true := by kernel_rfl
/-- A step by numbers. -/
structure Stp where
  d : Int
  i : Int
  h : Bool
  kn : Nat
  vl : Nat
  r : Rf
  v : Rf
structure Stp.Ok (s : Stp) : Prop where
  d : -9223372036854775808 ≤ s.d ∧ s.d ≤ 9223372036854775807
  i : -9223372036854775808 ≤ s.i ∧ s.i ≤ 9223372036854775807
  kn : s.kn ≤ 255
  vl : s.vl ≤ 255
  r : Rr s.r
  v : Rr s.v
instance : Inhabited Stp := ⟨⟨0, 0, false, 0, 0, (0, 0), (0, 0)⟩⟩
def Stp.cs (s : Stp) : Array Value := #[.int .i64 s.d, .int .i64 s.i, .bool s.h, .int .u8 s.kn, .int .u8 s.vl, .int .i64 s.r.1, .int .u32 s.r.2, .int .i64 s.v.1, .int .u32 s.v.2]
/-- A turn by numbers. -/
structure Trn where
  kind : Nat
  i : Nat
  k : Nat
structure Trn.Ok (t : Trn) : Prop where
  kind : t.kind ≤ 255
  i : t.i ≤ 255
  k : t.k ≤ 255
instance : Inhabited Trn := ⟨⟨0, 0, 0⟩⟩
def Trn.cs (t : Trn) : Array Value := #[.int .u8 t.kind, .int .u8 t.i, .int .u8 t.k]
section
variable {H : Type} {enc : TypeId × Value → H} {W : World}
set_option maxRecDepth 100000 in
theorem ref_cells {n : Nat} {c0 c1 : Value} {y : DataW H × List MemPlace} (h : DataW.trod enc Try.prog W 0 (fun _ => true) true n 34 [c0, c1] = some y) : ∃ r : Rf, c0 = .int .i64 r.1 ∧ c1 = .int .u32 r.2 ∧ Rr r := by
  obtain ⟨y0, y1, m, _, _, h0, h1⟩ := trod_struct2 Try.underlying34 h
  have e0 : Try.prog.cellsOf 3 = 1 := by kernel_rfl
  have e1 : Try.prog.cellsOf 22 = 1 := by kernel_rfl
  simp only [e0, e1, List.drop_zero, List.drop_succ_cons, List.take_succ_cons, List.take_zero] at h0 h1
  obtain ⟨x, k1, _, w1⟩ := DataW.trod_int (t := 3) Try.underlying3 h0
  obtain ⟨z, k2, _, w2⟩ := DataW.trod_int (t := 22) Try.underlying22 h1
  simp at k1 k2
  have q1 := bounds_i64 w1
  have q2 := bounds_u32 w2
  exact ⟨(x, z), k1, k2, q1.1, q1.2, q2.1, q2.2⟩
set_option maxRecDepth 100000 in
theorem step_cells {n : Nat} {cs : List Value} {y : DataW H × List MemPlace} (hl : cs.length = 9) (h : DataW.trod enc Try.prog W 0 (fun _ => true) true n 36 cs = some y) : ∃ s : Stp, cs = s.cs.toList ∧ s.Ok := by
  obtain ⟨xs, k, _, _, _, hxl, hfl⟩ := DataW.trod_struct Try.underlying36 h
  match xs, hxl, cs, hl with
  | [y0, y1, y2, y3, y4, y5, y6], _, [v0, v1, v2, v3, v4, v5, v6, v7, v8], _ =>
    have g0 := hfl 0 _ rfl
    have g1 := hfl 1 _ rfl
    have g2 := hfl 2 _ rfl
    have g3 := hfl 3 _ rfl
    have g4 := hfl 4 _ rfl
    have g5 := hfl 5 _ rfl
    have g6 := hfl 6 _ rfl
    have c1 : Try.prog.cellsOf 3 = 1 := by kernel_rfl
    have c2 : Try.prog.cellsOf 4 = 1 := by kernel_rfl
    have c3 : Try.prog.cellsOf 5 = 1 := by kernel_rfl
    have c4 : Try.prog.cellsOf 34 = 2 := by kernel_rfl
    simp [c1, c2, c3, c4] at g0 g1 g2 g3 g4 g5 g6
    obtain ⟨x0, e0, _, w0⟩ := DataW.trod_int (t := 3) Try.underlying3 g0
    obtain ⟨x1, e1, _, w1⟩ := DataW.trod_int (t := 3) Try.underlying3 g1
    obtain ⟨x2, e2, _⟩ := DataW.trod_bool (t := 4) Try.underlying4 g2
    obtain ⟨x3, e3, _, w3⟩ := DataW.trod_int (t := 5) Try.underlying5 g3
    obtain ⟨x4, e4, _, w4⟩ := DataW.trod_int (t := 5) Try.underlying5 g4
    obtain ⟨r5, rfl, rfl, q5⟩ := ref_cells g5
    obtain ⟨r6, rfl, rfl, q6⟩ := ref_cells g6
    simp at e0 e1 e2 e3 e4
    subst e0 e1 e2 e3 e4
    have b3 := bounds_u8 w3
    have b4 := bounds_u8 w4
    obtain ⟨x3, rfl⟩ := Int.eq_ofNat_of_zero_le b3.1
    obtain ⟨x4, rfl⟩ := Int.eq_ofNat_of_zero_le b4.1
    exact ⟨⟨x0, x1, x2, x3, x4, r5, r6⟩, rfl, ⟨bounds_i64 w0, bounds_i64 w1, by show x3 ≤ 255; omega, by show x4 ≤ 255; omega, q5, q6⟩⟩
set_option maxRecDepth 100000 in
theorem turn_cells {n : Nat} {cs : List Value} {y : DataW H × List MemPlace} (hl : cs.length = 3) (h : DataW.trod enc Try.prog W 0 (fun _ => true) true n 65 cs = some y) : ∃ s : Trn, cs = s.cs.toList ∧ s.Ok := by
  obtain ⟨xs, k, _, _, _, hxl, hfl⟩ := DataW.trod_struct Try.underlying65 h
  match xs, hxl, cs, hl with
  | [y0, y1, y2], _, [v0, v1, v2], _ =>
    have g0 := hfl 0 _ rfl
    have g1 := hfl 1 _ rfl
    have g2 := hfl 2 _ rfl
    have c3 : Try.prog.cellsOf 5 = 1 := by kernel_rfl
    simp [c3] at g0 g1 g2
    obtain ⟨x0, e0, _, w0⟩ := DataW.trod_int (t := 5) Try.underlying5 g0
    obtain ⟨x1, e1, _, w1⟩ := DataW.trod_int (t := 5) Try.underlying5 g1
    obtain ⟨x2, e2, _, w2⟩ := DataW.trod_int (t := 5) Try.underlying5 g2
    simp at e0 e1 e2
    subst e0 e1 e2
    have b0 := bounds_u8 w0
    have b1 := bounds_u8 w1
    have b2 := bounds_u8 w2
    obtain ⟨x0, rfl⟩ := Int.eq_ofNat_of_zero_le b0.1
    obtain ⟨x1, rfl⟩ := Int.eq_ofNat_of_zero_le b1.1
    obtain ⟨x2, rfl⟩ := Int.eq_ofNat_of_zero_le b2.1
    exact ⟨⟨x0, x1, x2⟩, rfl, ⟨by show x0 ≤ 255; omega, by show x1 ≤ 255; omega, by show x2 ≤ 255; omega⟩⟩
set_option maxRecDepth 100000 in
theorem step_of {r : Reach} {b0 : Nat} {v : Value} {d : DataW H} {p : List MemPlace} (hv : Value.okWide Try.prog W r b0 36 v) (h : DataW.Trod enc Try.prog W 0 (fun _ => true) true 36 v d p) : ∃ s : Stp, v = .agg s.cs ∧ s.Ok := by
  obtain ⟨cs, rfl, hsz⟩ := okWide_struct Try.underlying36 hv
  obtain ⟨fuel, hf⟩ := h
  have hs9 : cs.size = 9 := hsz.trans (by kernel_rfl)
  obtain ⟨s, e, ho⟩ := step_cells (cs := cs.toList) (by simpa using hs9) hf
  exact ⟨s, by rw [Array.toList_inj.1 e], ho⟩
set_option maxRecDepth 100000 in
theorem turn_of {r : Reach} {b0 : Nat} {v : Value} {d : DataW H} {p : List MemPlace} (hv : Value.okWide Try.prog W r b0 65 v) (h : DataW.Trod enc Try.prog W 0 (fun _ => true) true 65 v d p) : ∃ s : Trn, v = .agg s.cs ∧ s.Ok := by
  obtain ⟨cs, rfl, hsz⟩ := okWide_struct Try.underlying65 hv
  obtain ⟨fuel, hf⟩ := h
  have hs3 : cs.size = 3 := hsz.trans (by kernel_rfl)
  obtain ⟨s, e, ho⟩ := turn_cells (cs := cs.toList) (by simpa using hs3) hf
  exact ⟨s, by rw [Array.toList_inj.1 e], ho⟩
end
/-- What a parameter of steps holds. -/
structure Stps (w : World) (a : Option Addr) (len : Nat) (s : Nat → Stp) : Prop where
  at_ : 0 < len → ∃ b off, a = some ⟨b, off, none⟩ ∧ b < w.heap.size ∧ ∀ j, j < len → ∀ q v, (s j).cs[q]? = some v → w.cell? ⟨b, off + j * 9 + q, none⟩ = some v
  bd : ∀ j, j < len → (s j).Ok
theorem Stps.below {w w' : World} {a : Option Addr} {len : Nat} {s : Nat → Stp} (h : Stps w a len s) (hb : Below w.heap.size w w') : Stps w' a len s :=
  ⟨fun h0 => by
    obtain ⟨b, off, e, h1, h2⟩ := h.at_ h0
    exact ⟨b, off, e, Nat.lt_of_lt_of_le h1 hb.size, fun j hj q v hq => cell_stays hb (h2 j hj q v hq)⟩, h.bd⟩
structure Trns (w : World) (a : Option Addr) (len : Nat) (s : Nat → Trn) : Prop where
  at_ : 0 < len → ∃ b off, a = some ⟨b, off, none⟩ ∧ b < w.heap.size ∧ ∀ j, j < len → ∀ q v, (s j).cs[q]? = some v → w.cell? ⟨b, off + j * 3 + q, none⟩ = some v
  bd : ∀ j, j < len → (s j).Ok
theorem Trns.below {w w' : World} {a : Option Addr} {len : Nat} {s : Nat → Trn} (h : Trns w a len s) (hb : Below w.heap.size w w') : Trns w' a len s :=
  ⟨fun h0 => by
    obtain ⟨b, off, e, h1, h2⟩ := h.at_ h0
    exact ⟨b, off, e, Nat.lt_of_lt_of_le h1 hb.size, fun j hj q v hq => cell_stays hb (h2 j hj q v hq)⟩, h.bd⟩
set_option maxRecDepth 1000000 in
theorem steps_of {H : Type} {enc : TypeId × Value → H} {W : World} {a : Option Addr} {len cap : Nat} {d : DataW H} {p : List MemPlace} (h : DataW.Trod enc Try.prog W 0 (fun _ => true) true 23 (.slice a len cap) d p) : len ≤ cap ∧ cap ≤ 9223372036854775807 ∧ ∃ s, Stps W a len s := by
  obtain ⟨fuel, hf⟩ := h
  rcases Go.Deep.open_slice Try.underlying23 hf with ⟨hcs, hx⟩ | ⟨a', len', cap', m, n, D, Pl, hcs, _, hl, hm, hmm, _, hi⟩
  · simp [Value.cells] at hcs
    obtain ⟨rfl, rfl, rfl⟩ := hcs
    exact ⟨Nat.le_refl _, by omega, fun _ => default, fun h => by omega, fun _ _ => by omega⟩
  · simp [Value.cells] at hcs
    obtain ⟨rfl, rfl, rfl⟩ := hcs
    simp only [if_true] at hmm
    have hce : Try.prog.cellsOf 36 = 9 := by kernel_rfl
    have each : ∀ j, j < len → ∃ t : Stp, (∀ q v, t.cs[q]? = some v → W.cell? (a'.add (j * 9 + q)) = some v) ∧ t.Ok := by
      intro j hj
      obtain ⟨cs', h1, h2⟩ := hi j (by omega)
      rw [hce] at h1
      obtain ⟨_, hlen, hcell⟩ := World.cells?_some h1
      obtain ⟨s, e, ho⟩ := step_cells hlen h2
      subst e
      refine ⟨s, fun q v hq => ?_, ho⟩
      have hq9 : q < 9 := by have := (Array.getElem?_eq_some_iff.1 hq).1; simpa [Stp.cs] using this
      have := hcell q hq9
      rw [Go.Deep.add_add] at this
      rw [this]
      simpa using hq
    obtain ⟨t, ht⟩ := Go.Deep.choose_lt each
    refine ⟨hl, by unfold maxLen at hm; omega, t, fun h0 => ?_, fun j hj => (ht j hj).2⟩
    obtain ⟨b, off, spot⟩ := a'
    have h00 := (ht 0 h0).1 0 _ rfl
    have hspot : spot = none := by simpa [Addr.add] using World.cell?_spot h00
    subst hspot
    rw [add_plain] at h00
    refine ⟨b, off, rfl, World.block_lt_of_cell? _ _ h00, fun j hj q v hq => ?_⟩
    have := (ht j hj).1 q v hq
    rw [add_plain, ← Nat.add_assoc] at this
    exact this
set_option maxRecDepth 1000000 in
theorem turns_of {H : Type} {enc : TypeId × Value → H} {W : World} {a : Option Addr} {len cap : Nat} {d : DataW H} {p : List MemPlace} (h : DataW.Trod enc Try.prog W 0 (fun _ => true) true 60 (.slice a len cap) d p) : len ≤ cap ∧ cap ≤ 9223372036854775807 ∧ ∃ s, Trns W a len s := by
  obtain ⟨fuel, hf⟩ := h
  rcases Go.Deep.open_slice Try.underlying60 hf with ⟨hcs, hx⟩ | ⟨a', len', cap', m, n, D, Pl, hcs, _, hl, hm, hmm, _, hi⟩
  · simp [Value.cells] at hcs
    obtain ⟨rfl, rfl, rfl⟩ := hcs
    exact ⟨Nat.le_refl _, by omega, fun _ => default, fun h => by omega, fun _ _ => by omega⟩
  · simp [Value.cells] at hcs
    obtain ⟨rfl, rfl, rfl⟩ := hcs
    simp only [if_true] at hmm
    have hce : Try.prog.cellsOf 65 = 3 := by kernel_rfl
    have each : ∀ j, j < len → ∃ t : Trn, (∀ q v, t.cs[q]? = some v → W.cell? (a'.add (j * 3 + q)) = some v) ∧ t.Ok := by
      intro j hj
      obtain ⟨cs', h1, h2⟩ := hi j (by omega)
      rw [hce] at h1
      obtain ⟨_, hlen, hcell⟩ := World.cells?_some h1
      obtain ⟨s, e, ho⟩ := turn_cells hlen h2
      subst e
      refine ⟨s, fun q v hq => ?_, ho⟩
      have hq3 : q < 3 := by have := (Array.getElem?_eq_some_iff.1 hq).1; simpa [Trn.cs] using this
      have := hcell q hq3
      rw [Go.Deep.add_add] at this
      rw [this]
      simpa using hq
    obtain ⟨t, ht⟩ := Go.Deep.choose_lt each
    refine ⟨hl, by unfold maxLen at hm; omega, t, fun h0 => ?_, fun j hj => (ht j hj).2⟩
    obtain ⟨b, off, spot⟩ := a'
    have h00 := (ht 0 h0).1 0 _ rfl
    have hspot : spot = none := by simpa [Addr.add] using World.cell?_spot h00
    subst hspot
    rw [add_plain] at h00
    refine ⟨b, off, rfl, World.block_lt_of_cell? _ _ h00, fun j hj q v hq => ?_⟩
    have := (ht j hj).1 q v hq
    rw [add_plain, ← Nat.add_assoc] at this
    exact this
end Go.Proofs.Ytfnhkapbfgofkaa
