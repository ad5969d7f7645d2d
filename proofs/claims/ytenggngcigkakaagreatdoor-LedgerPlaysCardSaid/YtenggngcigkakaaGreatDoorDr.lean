/- The contracts of the document's Text and OuterText. -/
import Derived.Test.YtenggngcigkakaaGreatDoorDe
import Derived.Deep.RegionHeld3
import Derived.RegionTactic
import Derived.IntWalk
namespace Go.Proofs.YtenggngcigkakaaGreatDoor
open Go.RowKit

set_option maxHeartbeats 400000 in
theorem letter_ok (k : Nat) (h1 : 1 ≤ k) (h3 : k ≤ 3) (w : World) :
    Calls Tryz.prog 110 #[.int .i64 k] w fun e w' => e = .returned (.string ⟨#[letter k]⟩) ∧ w = w' := by
  have h : k = 1 ∨ k = 2 ∨ k = 3 := by omega
  rcases h with rfl | rfl | rfl
  all_goals
    go_enter Tryz.func110, Tryz.ntmps110
    go_wp2
    go_ret
    exact ⟨rfl, rfl⟩

/-- A call at a given number: it names the number, so that another call's contract is not tried. -/
theorem at_num {f : Nat} {W : World} {Q : Ending → World → Prop} (u : Nat) (h : Calls Tryz.prog f #[.int .u64 (u : Int)] W Q) : Calls Tryz.prog f #[.int .u64 (u : Int)] W Q := h

set_option maxHeartbeats 1000000 in
set_option maxRecDepth 100000 in
theorem rotext_ok (k p g : Nat) (h : Okn 64 k p g) (w : World) :
    Calls Tryz.prog 87 #[.agg #[.int .i64 k, .int .i64 p, .int .u32 g]] w fun e w' => e = .returned (.tuple #[.string ⟨(txt 58 k p g).toArray⟩, .int .i64 0]) ∧ Below w.heap.size w w' := by
  rw [← cat_txt]
  have HH := Lib.hid h
  obtain ⟨h1, h2, h3, h4, h5⟩ := h
  have hs1 : (Lib.decDigits p).length ≤ 10 := (digits_len p (by omega)).2
  have hs2 : (Lib.decDigits g).length ≤ 10 := (digits_len g (by omega)).2
  go_enter Tryz.func87, Tryz.ntmps87
  go_wp2_with fail
  refine (rochk_ok k p g HH.out _).mono ?_
  rintro e w1 ⟨rfl, hb1⟩
  have HB1 := Lib.hid (bel2 ((Below.refl _ _).alloc (Nat.le_refl _) _) hb1 : Below w.heap.size w w1)
  have hc : w1.cell? ⟨w.heap.size, 0, none⟩ = some (.int .i64 k) := by rw [hb1.cell (p := ⟨w.heap.size, 0, none⟩) (by simp)]; go_simp
  have hc1 : w1.cell? ⟨w.heap.size, 1, none⟩ = some (.int .i64 p) := by rw [hb1.cell (p := ⟨w.heap.size, 1, none⟩) (by simp)]; go_simp
  have hc2 : w1.cell? ⟨w.heap.size, 2, none⟩ = some (.int .u32 g) := by rw [hb1.cell (p := ⟨w.heap.size, 2, none⟩) (by simp)]; go_simp
  clear hb1
  go_wp2
  have q1 : IntKind.u64.wrap (p : Int) = (p : Int) := IntWalk.u64_in _ (by omega)
  have q2 : IntKind.u64.wrap (g : Int) = (g : Int) := IntWalk.u64_in _ (by omega)
  have c1 : ¬ 9223372036854775807 < 1 + (Lib.decDigits p).length := by omega
  have c2 : ¬ 9223372036854775807 < 1 + (Lib.decDigits p).length + 1 := by omega
  have c3 : ¬ 9223372036854775807 < 1 + (Lib.decDigits p).length + 1 + (Lib.decDigits g).length := by omega
  have hz0 := And.intro hc (And.intro hc1 hc2)
  clear hc hc1 hc2
  go_region_held3 (fun W => W.cell? ⟨w.heap.size, 0, none⟩ = some (.int .i64 k) ∧ W.cell? ⟨w.heap.size, 1, none⟩ = some (.int .i64 p) ∧ W.cell? ⟨w.heap.size, 2, none⟩ = some (.int .u32 g)) (first | exact hz0 | exact hz1 | exact hz2)
    (first
    | (go_at_call 110; refine (letter_ok k h1 h2 _).mono ?_; rintro e w3 ⟨rfl, rfl⟩)
    | (go_at_call 111; (with_reducible refine at_num p ?_); refine (digits_any p (by omega) _).mono ?_; rintro e w4 ⟨rfl, hb4⟩; have hz1 := And.intro (cell_stays hb4 hz0.1) (And.intro (cell_stays hb4 hz0.2.1) (cell_stays hb4 hz0.2.2)))
    | (go_at_call 111; (with_reducible refine at_num g ?_); refine (digits_any g (by omega) _).mono ?_; rintro e w5 ⟨rfl, hb5⟩; have hz2 := And.intro (cell_stays hb5 hz1.1) (And.intro (cell_stays hb5 hz1.2.1) (cell_stays hb5 hz1.2.2))))
  all_goals
    clear q1 q2 c1 c2 c3 hz0 hz1 hz2
    go_wp2
    go_ret2
    exact ⟨rfl, bel2 HB1.out (bel2 (bel2 (bel_dr _) hb4) hb5)⟩


set_option maxHeartbeats 400000 in
theorem rotext_bad (k p g : Int) (hr : Rg k p g) (h : Bad 64 k p g) (w : World) :
    Calls Tryz.prog 87 #[.agg #[.int .i64 k, .int .i64 p, .int .u32 g]] w fun e w' => e = .returned (.tuple #[.string ⟨#[]⟩, .int .i64 2]) ∧ Below w.heap.size w w' := by
  have HR := Lib.hid hr
  have HH := Lib.hid h
  clear h hr
  go_enter Tryz.func87, Tryz.ntmps87
  go_wp2_with fail
  refine (rochk_bad k p g HR.out HH.out _).mono ?_
  rintro e w1 ⟨rfl, hb1⟩
  go_wp2
  go_ret2
  exact ⟨rfl, bel2 ((Below.refl _ _).alloc (Nat.le_refl _) _) hb1⟩
end Go.Proofs.YtenggngcigkakaaGreatDoor
