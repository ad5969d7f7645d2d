/- What an []int, a []uint8, a [][]uint8 and a []Step among the arguments hold. -/
import Derived.Test.YtllfmancfkmimaaDoorAen
import Derived.Carry
namespace Go.Proofs.YtllfmancfkmimaaDoor
open Go.ChangeShapes Go.WideShapes Go.ChangeAt Go.RowKit

theorem cells_int : Tryd.prog.cellsOf 3 = 1 := by kernel_rfl
theorem cells_u8 : Tryd.prog.cellsOf 5 = 1 := by kernel_rfl
theorem cells_sl8 : Tryd.prog.cellsOf 47 = 1 := by kernel_rfl
theorem getD_take {zs : List Int} {len j : Nat} {x : Int} (h : (zs.take len)[j]? = some x) : j < len ∧ j < zs.length ∧ zs.getD j 0 = x := by
  rw [List.getElem?_take] at h
  split at h
  · rename_i hl
    have hz := (List.getElem?_eq_some_iff.1 h).1
    exact ⟨hl, hz, by rw [List.getD_eq_getElem?_getD, h]; rfl⟩
  · cases h
/-- Cells of numbers, as a slice that is read. -/
theorem rd_of {k : IntKind} {W : World} {a : Addr} {len cap : Nat} {zs : List Int} (hl : len ≤ cap) (hm : cap ≤ maxLen) (hz : zs.length = cap) (hcell : ∀ i, i < zs.length → W.cell? (a.add i) = some (.int k (zs.getD i 0))) :
    Rd k W (.slice (some a) len cap) (zs.take len) := by
  have e : (zs.take len).length = len := by rw [List.length_take]; omega
  refine ⟨some a, cap, by rw [e], by omega, by unfold maxLen at hm; omega, fun h => (by cases h), fun h0 => ?_⟩
  rw [e] at h0
  obtain ⟨b, off, spot⟩ := a
  have h1 := hcell 0 (by omega)
  have hspot : spot = none := by simpa [Addr.add] using World.cell?_spot h1
  subst hspot
  rw [add_plain] at h1
  refine ⟨b, off, rfl, World.block_lt_of_cell? _ _ h1, fun j x hj => ?_⟩
  obtain ⟨_, h2, h3⟩ := getD_take hj
  have := hcell j h2
  rw [add_plain, h3] at this
  exact this
theorem rd_nil (k : IntKind) (W : World) : Rd k W (.slice none 0 0) [] := ⟨none, 0, rfl, Nat.le_refl _, Nat.zero_le _, fun _ => rfl, fun h => by simp at h⟩
theorem ints_of {H : Type} {enc : TypeId × Value → H} {W : World} {a : Option Addr} {len cap : Nat} {d : DataW H} {p : List MemPlace} (h : DataW.Trod enc Tryd.prog W 0 (fun _ => true) true 22 (.slice a len cap) d p) : ∃ l, Rd .i64 W (.slice a len cap) l := by
  obtain ⟨fuel, hf⟩ := h
  rcases open_ints Tryd.underlying22 Tryd.underlying3 cells_int hf with ⟨hcs, hx⟩ | ⟨a', len', cap', zs, hcs, _, hl, hm, hz, hx, hcell, hwz⟩
  · simp [Value.cells] at hcs
    obtain ⟨rfl, rfl, rfl⟩ := hcs
    exact ⟨[], rd_nil _ _⟩
  · simp [Value.cells] at hcs
    obtain ⟨rfl, rfl, rfl⟩ := hcs
    simp only [if_true] at hz
    exact ⟨_, rd_of hl hm hz hcell⟩
theorem u8s_of {H : Type} {enc : TypeId × Value → H} {W : World} {a : Option Addr} {len cap : Nat} {d : DataW H} {p : List MemPlace} (h : DataW.Trod enc Tryd.prog W 0 (fun _ => true) true 47 (.slice a len cap) d p) : ∃ l, U8 W a len cap l := by
  obtain ⟨fuel, hf⟩ := h
  rcases open_ints Tryd.underlying47 Tryd.underlying5 cells_u8 hf with ⟨hcs, hx⟩ | ⟨a', len', cap', zs, hcs, _, hl, hm, hz, hx, hcell, hwz⟩
  · simp [Value.cells] at hcs
    obtain ⟨rfl, rfl, rfl⟩ := hcs
    exact ⟨[], rd_nil _ _, fun _ h => by cases h⟩
  · simp [Value.cells] at hcs
    obtain ⟨rfl, rfl, rfl⟩ := hcs
    simp only [if_true] at hz
    exact ⟨_, rd_of hl hm hz hcell, fun x hx => bounds_u8 (hwz x (List.mem_of_mem_take hx))⟩

/-- Rows of bytes among the arguments. -/
structure Rows8 (w : World) (a : Option Addr) (n : Nat) (ls : List (List Int)) : Prop where
  len : n = ls.length
  at_ : 0 < n → ∃ g off, a = some ⟨g, off, none⟩ ∧ g < w.heap.size ∧ ∀ j (h : j < ls.length), ∃ A C, w.cell? ⟨g, off + j, none⟩ = some (.slice A ls[j].length C) ∧ U8 w A ls[j].length C ls[j]
theorem Rows8.below {w w' : World} {a : Option Addr} {n : Nat} {ls : List (List Int)} (h : Rows8 w a n ls) (hb : Below w.heap.size w w') : Rows8 w' a n ls :=
  ⟨h.len, fun h0 => by
    obtain ⟨g, off, e, hg, hc⟩ := h.at_ h0
    refine ⟨g, off, e, Nat.lt_of_lt_of_le hg hb.size, fun j hj => ?_⟩
    obtain ⟨A, C, h1, h2⟩ := hc j hj
    exact ⟨A, C, (hb.cell (p := ⟨g, off + j, none⟩) hg).trans h1, h2.below hb⟩⟩
theorem rows_of {H : Type} {enc : TypeId × Value → H} {W : World} {a : Option Addr} {len cap : Nat} {d : DataW H} {p : List MemPlace} (h : DataW.Trod enc Tryd.prog W 0 (fun _ => true) true 46 (.slice a len cap) d p) : ∃ ls, Rows8 W a len ls := by
  obtain ⟨fuel, hf⟩ := h
  rcases Go.Deep.open_int_rows Tryd.underlying46 Tryd.underlying47 Tryd.underlying5 cells_sl8 cells_u8 hf with ⟨hcs, hx⟩ | ⟨a', len', cap', A, L, C, Z, hcs, _, hl, hm, _, hr⟩
  · simp [Value.cells] at hcs
    obtain ⟨rfl, rfl, rfl⟩ := hcs
    exact ⟨[], rfl, fun h => by omega⟩
  · simp [Value.cells] at hcs
    obtain ⟨rfl, rfl, rfl⟩ := hcs
    refine ⟨(List.range len).map fun r => (Z r).take (L r), by simp, fun h0 => ?_⟩
    obtain ⟨b, off, spot⟩ := a'
    have hspot : spot = none := by simpa [Addr.add] using World.cell?_spot (hr 0 (by omega)).1
    subst hspot
    have h1 := (hr 0 (by omega)).1
    rw [add_plain] at h1
    refine ⟨b, off, rfl, World.block_lt_of_cell? _ _ h1, fun j hj => ?_⟩
    have hj' : j < len := by simpa using hj
    obtain ⟨e1, q1, q2, q3, q4, q5, q6⟩ := hr j (by omega)
    rw [add_plain] at e1
    have hlen : ((Z j).take (L j)).length = L j := by rw [List.length_take]; omega
    have hg : ((List.range len).map fun r => (Z r).take (L r))[j] = (Z j).take (L j) := by simp
    rw [hg, hlen]
    refine ⟨A j, C j, e1, ?_, fun x hx => bounds_u8 (q4 x (List.mem_of_mem_take hx))⟩
    cases hA : A j with
    | none =>
      have hc := q5 hA
      have : (Z j).take (L j) = [] := List.eq_nil_of_length_eq_zero (by omega)
      rw [this, show L j = 0 by omega, hc]
      exact rd_nil _ _
    | some a'' => exact rd_of q1 q2 q3 (fun i hi => (q6 a'' hA).2 i (by omega))

/-- What the parameter l of AnswerPlays holds: its steps. -/
structure Steps (w : World) (a : Option Addr) (len : Nat) (dos ns : Nat → Int) (ts : Nat → ByteArray) : Prop where
  at_ : 0 < len → ∃ b off, a = some ⟨b, off, none⟩ ∧ b < w.heap.size ∧ ∀ j, j < len → w.cell? ⟨b, off + j * 3, none⟩ = some (.int .i64 (dos j)) ∧ w.cell? ⟨b, off + j * 3 + 1, none⟩ = some (.int .i64 (ns j)) ∧ w.cell? ⟨b, off + j * 3 + 2, none⟩ = some (.string (ts j))
  bd : ∀ j, j < len → (ts j).size ≤ 9223372036854775807
theorem Steps.below {w w' : World} {a : Option Addr} {len : Nat} {dos ns : Nat → Int} {ts : Nat → ByteArray} (h : Steps w a len dos ns ts) (hb : Below w.heap.size w w') : Steps w' a len dos ns ts :=
  ⟨fun h0 => by obtain ⟨b, off, e, h1, h2⟩ := h.at_ h0; exact ⟨b, off, e, Nat.lt_of_lt_of_le h1 hb.size, fun j hj => ⟨(hb.cell (p := ⟨b, off + j * 3, none⟩) h1).trans (h2 j hj).1, (hb.cell (p := ⟨b, off + j * 3 + 1, none⟩) h1).trans (h2 j hj).2.1, (hb.cell (p := ⟨b, off + j * 3 + 2, none⟩) h1).trans (h2 j hj).2.2⟩⟩, h.bd⟩
instance : Inhabited ByteArray := ⟨ByteArray.empty⟩
theorem steps_of {H : Type} {enc : TypeId × Value → H} {W : World} {a : Option Addr} {len cap : Nat} {d : DataW H} {p : List MemPlace} (h : DataW.Trod enc Tryd.prog W 0 (fun _ => true) true 31 (.slice a len cap) d p) : ∃ dos ns ts, Steps W a len dos ns ts := by
  obtain ⟨fuel, hf⟩ := h
  rcases Go.Deep.open_slice Tryd.underlying31 hf with ⟨hcs, hx⟩ | ⟨a', len', cap', m, n, D, Pl, hcs, _, hl, hm, hmm, _, hi⟩
  · simp [Value.cells] at hcs
    obtain ⟨rfl, rfl, rfl⟩ := hcs
    exact ⟨fun _ => 0, fun _ => 0, fun _ => ByteArray.empty, fun h => by omega, fun _ _ => by omega⟩
  · simp [Value.cells] at hcs
    obtain ⟨rfl, rfl, rfl⟩ := hcs
    simp only [if_true] at hmm
    have hce : Tryd.prog.cellsOf 37 = 3 := by kernel_rfl
    have each : ∀ j, j < len → ∃ t : Int × Int × ByteArray, W.cell? (a'.add (j * 3)) = some (.int .i64 t.1) ∧ W.cell? (a'.add (j * 3 + 1)) = some (.int .i64 t.2.1) ∧ W.cell? (a'.add (j * 3 + 2)) = some (.string t.2.2) ∧ t.2.2.size ≤ 9223372036854775807 := by
      intro j hj
      obtain ⟨cs', h1, h2⟩ := hi j (by omega)
      rw [hce] at h1
      obtain ⟨_, hlen, hcell⟩ := World.cells?_some h1
      obtain ⟨xs, k, _, _, _, hxl, hfl⟩ := DataW.trod_struct Tryd.underlying37 h2
      match xs, hxl, cs', hlen with
      | [y0, y1, y2], _, [v0, v1, v2], _ =>
        have g0 := hfl 0 _ rfl
        have g1 := hfl 1 _ rfl
        have g2 := hfl 2 _ rfl
        have c1 : Tryd.prog.cellsOf 3 = 1 := by kernel_rfl
        have c2 : Tryd.prog.cellsOf 9 = 1 := by kernel_rfl
        simp [c1, c2] at g0 g1 g2
        obtain ⟨x, e1, _, _⟩ := DataW.trod_int (t := 3) Tryd.underlying3 g0
        obtain ⟨y, e2, _, _⟩ := DataW.trod_int (t := 3) Tryd.underlying3 g1
        obtain ⟨z, e3, _, w3⟩ := DataW.trod_string (t := 9) Tryd.underlying9 g2
        simp at e1 e2 e3
        subst e1 e2 e3
        have r0 := hcell 0 (by omega)
        have r1 := hcell 1 (by omega)
        have r2 := hcell 2 (by omega)
        rw [Go.Deep.add_add] at r0 r1 r2
        exact ⟨(x, y, z), by simpa using r0, by simpa using r1, by simpa using r2, by unfold maxLen at w3; omega⟩
    obtain ⟨t, ht⟩ := Go.Deep.choose_lt each
    refine ⟨fun j => (t j).1, fun j => (t j).2.1, fun j => (t j).2.2, fun h0 => ?_, fun j hj => (ht j hj).2.2.2⟩
    obtain ⟨b, off, spot⟩ := a'
    have hspot : spot = none := by simpa [Addr.add] using World.cell?_spot (ht 0 h0).1
    subst hspot
    refine ⟨b, off, rfl, World.block_lt_of_cell? _ _ (ht 0 h0).1, fun j hj => ?_⟩
    obtain ⟨h1, h2, h3, _⟩ := ht j hj
    rw [add_plain] at h1 h2 h3
    exact ⟨h1, by rw [Nat.add_assoc]; exact h2, by rw [Nat.add_assoc]; exact h3⟩
end Go.Proofs.YtllfmancfkmimaaDoor
