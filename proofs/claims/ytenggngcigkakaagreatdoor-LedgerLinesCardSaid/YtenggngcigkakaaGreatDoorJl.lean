/- strings.SplitAfter of the text of a list at the line feed: its lines, and nothing behind. -/
import Derived.Test.YtenggngcigkakaaGreatDoorHv
import Derived.Test.YtenggngcigkakaaGreatDoorJk
import Derived.Test.YtenggngcigkakaaGreatDoorSw8
namespace Go.Proofs.YtenggngcigkakaaGreatDoor
open Go.RowKit
open Go.Lib (splitB countB indexB)

theorem ext_upto (m : UInt8) (p r : List UInt8) : (bstr (p ++ m :: r)).extract 0 (p.length + 1) = bstr (p ++ [m]) := by
  rw [Lib.extract_eq, bstr_data, show p ++ m :: r = (p ++ [m]) ++ r by simp]
  have e : ((p ++ [m]) ++ r).take (p.length + 1) = p ++ [m] := by
    rw [show p.length + 1 = (p ++ [m]).length by simp, List.take_left]
  simp only [List.drop_zero, Nat.sub_zero, e]
  rfl
theorem after_hit (m : UInt8) (p r : List UInt8) (hp : ∀ x ∈ p, x ≠ m) (k : Nat) : splitB (bstr [m]) 1 (k + 1) (bstr (p ++ m :: r)) = bstr (p ++ [m]) :: splitB (bstr [m]) 1 k (bstr r) := by
  rw [Lib.splitB_hit _ _ k _ p.length (index_at m p r hp), ext_tail, ext_upto]
theorem after_lines (L : List Att) : splitB (bstr [10]) 1 L.length (bstr (lines L)) = (L.map fun a => bstr (lineL a)) ++ [bstr []] := by
  induction L with
  | nil => rw [show ([] : List Att).length = 0 from rfl, Lib.splitB_zero]; rfl
  | cons a L ih => rw [lines_cons, List.length_cons, after_hit _ _ _ (aText_ne (by decide) a), ih]; rfl
theorem count_lines (L : List Att) : countB (bstr (lines L)) (bstr [10]) = L.length := by
  induction L with
  | nil => exact count_miss 10 [] (by simp)
  | cons a L ih => rw [lines_cons, count_hit _ _ _ (aText_ne (by decide) a), ih, List.length_cons, Nat.add_comm]
/-- The slice that SplitAfter gives. -/
def lineCells (L : List Att) : Array Value := ((L.map fun a => Value.string (bstr (lineL a))) ++ [Value.string (bstr [])]).toArray
theorem splitAfter_ok (L : List Att) (m : Int) (w : World) (hl : (lines L).length ≤ 65536) (hL : L.length ≤ (lines L).length) (hm : w.cell? ⟨2, 0, none⟩ = some (.int .i64 m)) :
    Calls Tryz.prog 41 #[.string (bstr (lines L)), .string ⟨#[10]⟩] w fun e w' =>
      e = .returned (.slice (some ⟨w.heap.size, 0, none⟩) (L.length + 1) (L.length + 1)) ∧ w' = w.alloc (.cells (lineCells L) 9) := by
  have HS := Lib.hid (Tryz.strings_genSplit (bstr (lines L)) (bstr [10]) 1 (-1) (L.length + 1) m w (by rw [bstr_size]; omega) hm (Nat.le_refl 1) (Nat.le_refl 1) (by decide) (by decide) (by rw [if_pos (by decide), count_lines, bstr_size]; omega))
  clear hl hL hm
  go_enter Tryz.func41, Tryz.ntmps41
  go_wp2_with fail
  refine HS.out.mono ?_
  rintro e w1 ⟨rfl, rfl⟩
  rw [Nat.add_sub_cancel, after_lines]
  have e1 : ((L.map fun a => bstr (lineL a)) ++ [bstr []]).length = L.length + 1 := by simp
  have e2 : Lib.cellsOf ((L.map fun a => bstr (lineL a)) ++ [bstr []]) (L.length + 1) = lineCells L := by
    unfold Lib.cellsOf lineCells
    rw [e1, Nat.sub_self]
    simp [List.map_append, List.map_map, Function.comp_def]
  rw [e1, e2]
  go_wp2
  go_ret
  exact ⟨rfl, rfl⟩
theorem lineCells_at (L : List Att) (j : Nat) (h : j < L.length) : (lineCells L)[j]? = some (.string (bstr (lineL L[j]))) := by
  unfold lineCells
  rw [List.getElem?_toArray, List.getElem?_append_left (by simpa using h)]
  simp [h]
end Go.Proofs.YtenggngcigkakaaGreatDoor
