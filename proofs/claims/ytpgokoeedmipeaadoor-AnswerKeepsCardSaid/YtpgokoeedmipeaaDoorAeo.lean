/- What an []int, a []uint8, a [][]uint8 and a []Step among the arguments hold. -/
import Derived.Test.YtpgokoeedmipeaaDoorAen
import Derived.Carry
namespace Go.Proofs.YtpgokoeedmipeaaDoor
open Go.ChangeShapes Go.WideShapes Go.ChangeAt Go.RowKit

theorem cells_int : Tryd.prog.cellsOf 3 = 1 := by kernel_rfl
theorem cells_u8 : Tryd.prog.cellsOf 5 = 1 := by kernel_rfl
theorem cells_sl8 : Tryd.prog.cellsOf 22 = 1 := by kernel_rfl
theorem getD_take {zs : List Int} {len j : Nat} {x : Int} (h : (zs.take len)[j]? = some x) : j < len ∧ j < zs.length ∧ zs.getD j 0 = x := by
  rw [List.getElem?_take] at h
  split at h
  · rename_i hl
    have hz := (List.getElem?_eq_some_iff.1 h).1
    exact ⟨hl, hz, by rw [List.getD_eq_getElem?_getD, h]; rfl⟩
  · cases h
/-- Cells of numbers, as a slice that is read. -/
theorem rd_of {k : IntKind} {W : World} {a : Addr} {len cap : Nat} {zs : List Int} (hl : len ≤ cap) (hm : cap ≤ maxLen) (hz : zs.length = cap) (hcell : ∀ i, i < zs.length → W.cell? (a.add i) = some (.int k (zs.getD i 0))) :
    Rd k W (.slice (some a) len cap) (zs.take len) := by
  have e : (zs.take len).length = len := by rw [List.length_take]; omega
  refine ⟨some a, cap, by rw [e], by omega, by unfold maxLen at hm; omega, fun h => (by cases h), fun h0 => ?_⟩
  rw [e] at h0
  obtain ⟨b, off, spot⟩ := a
  have h1 := hcell 0 (by omega)
  have hspot : spot = none := by simpa [Addr.add] using World.cell?_spot h1
  subst hspot
  rw [add_plain] at h1
  refine ⟨b, off, rfl, World.block_lt_of_cell? _ _ h1, fun j x hj => ?_⟩
  obtain ⟨_, h2, h3⟩ := getD_take hj
  have := hcell j h2
  rw [add_plain, h3] at this
  exact this
theorem rd_nil (k : IntKind) (W : World) : Rd k W (.slice none 0 0) [] := ⟨none, 0, rfl, Nat.le_refl _, Nat.zero_le _, fun _ => rfl, fun h => by simp at h⟩
theorem ints_of {H : Type} {enc : TypeId × Value → H} {W : World} {a : Option Addr} {len cap : Nat} {d : DataW H} {p : List MemPlace} (h : DataW.Trod enc Tryd.prog W 0 (fun _ => true) true 29 (.slice a len cap) d p) : ∃ l, Rd .i64 W (.slice a len cap) l := by
  obtain ⟨fuel, hf⟩ := h
  rcases open_ints Tryd.underlying29 Tryd.underlying3 cells_int hf with ⟨hcs, hx⟩ | ⟨a', len', cap', zs, hcs, _, hl, hm, hz, hx, hcell, hwz⟩
  · simp [Value.cells] at hcs
    obtain ⟨rfl, rfl, rfl⟩ := hcs
    exact ⟨[], rd_nil _ _⟩
  · simp [Value.cells] at hcs
    obtain ⟨rfl, rfl, rfl⟩ := hcs
    simp only [if_true] at hz
    exact ⟨_, rd_of hl hm hz hcell⟩
theorem u8s_of {H : Type} {enc : TypeId × Value → H} {W : World} {a : Option Addr} {len cap : Nat} {d : DataW H} {p : List MemPlace} (h : DataW.Trod enc Tryd.prog W 0 (fun _ => true) true 22 (.slice a len cap) d p) : ∃ l, U8 W a len cap l := by
  obtain ⟨fuel, hf⟩ := h
  rcases open_ints Tryd.underlying22 Tryd.underlying5 cells_u8 hf with ⟨hcs, hx⟩ | ⟨a', len', cap', zs, hcs, _, hl, hm, hz, hx, hcell, hwz⟩
  · simp [Value.cells] at hcs
    obtain ⟨rfl, rfl, rfl⟩ := hcs
    exact ⟨[], rd_nil _ _, fun _ h => by cases h⟩
  · simp [Value.cells] at hcs
    obtain ⟨rfl, rfl, rfl⟩ := hcs
    simp only [if_true] at hz
    exact ⟨_, rd_of hl hm hz hcell, fun x hx => bounds_u8 (hwz x (List.mem_of_mem_take hx))⟩

/-- Rows of bytes among the arguments. -/
structure Rows8 (w : World) (a : Option Addr) (n : Nat) (ls : List (List Int)) : Prop where
  len : n = ls.length
  at_ : 0 < n → ∃ g off, a = some ⟨g, off, none⟩ ∧ g < w.heap.size ∧ ∀ j (h : j < ls.length), ∃ A C, w.cell? ⟨g, off + j, none⟩ = some (.slice A ls[j].length C) ∧ U8 w A ls[j].length C ls[j]
theorem Rows8.below {w w' : World} {a : Option Addr} {n : Nat} {ls : List (List Int)} (h : Rows8 w a n ls) (hb : Below w.heap.size w w') : Rows8 w' a n ls :=
  ⟨h.len, fun h0 => by
    obtain ⟨g, off, e, hg, hc⟩ := h.at_ h0
    refine ⟨g, off, e, Nat.lt_of_lt_of_le hg hb.size, fun j hj => ?_⟩
    obtain ⟨A, C, h1, h2⟩ := hc j hj
    exact ⟨A, C, (hb.cell (p := ⟨g, off + j, none⟩) hg).trans h1, h2.below hb⟩⟩

/-- What the parameter l of AnswerPlays holds: its steps. -/
structure Steps (w : World) (a : Option Addr) (len : Nat) (dos ns : Nat → Int) (ts : Nat → ByteArray) : Prop where
  at_ : 0 < len → ∃ b off, a = some ⟨b, off, none⟩ ∧ b < w.heap.size ∧ ∀ j, j < len → w.cell? ⟨b, off + j * 3, none⟩ = some (.int .i64 (dos j)) ∧ w.cell? ⟨b, off + j * 3 + 1, none⟩ = some (.int .i64 (ns j)) ∧ w.cell? ⟨b, off + j * 3 + 2, none⟩ = some (.string (ts j))
  bd : ∀ j, j < len → (ts j).size ≤ 9223372036854775807
theorem Steps.below {w w' : World} {a : Option Addr} {len : Nat} {dos ns : Nat → Int} {ts : Nat → ByteArray} (h : Steps w a len dos ns ts) (hb : Below w.heap.size w w') : Steps w' a len dos ns ts :=
  ⟨fun h0 => by obtain ⟨b, off, e, h1, h2⟩ := h.at_ h0; exact ⟨b, off, e, Nat.lt_of_lt_of_le h1 hb.size, fun j hj => ⟨(hb.cell (p := ⟨b, off + j * 3, none⟩) h1).trans (h2 j hj).1, (hb.cell (p := ⟨b, off + j * 3 + 1, none⟩) h1).trans (h2 j hj).2.1, (hb.cell (p := ⟨b, off + j * 3 + 2, none⟩) h1).trans (h2 j hj).2.2⟩⟩, h.bd⟩
instance : Inhabited ByteArray := ⟨ByteArray.empty⟩
end Go.Proofs.YtpgokoeedmipeaaDoor
