/- The contracts of Pack where the descriptor is not possible, of the document's Pack, and of Unpack, the program's and the document's. -/
import Derived.Test.YtnjmlecbljeofaaDoorDp
import Derived.Laws.ResultCell
namespace Go.Proofs.YtnjmlecbljeofaaDoor
open Go.RowKit

set_option maxHeartbeats 400000 in
theorem pack_bad (k p g : Int) (hr : Rg k p g) (h : Bad 256 k p g) (w : World) :
    Calls Tryd.prog 13 #[.agg #[.int .i64 k, .int .i64 p, .int .u32 g]] w fun e w' => e = .returned (.tuple #[.int .u64 0, .int .i64 2]) ∧ Below w.heap.size w w' := by
  have HR := Lib.hid hr
  have HH := Lib.hid h
  clear h hr
  go_enter Tryd.func13, Tryd.ntmps13
  go_wp2_with fail
  refine (dchk_bad k p g HR.out HH.out _).mono ?_
  rintro e w1 ⟨rfl, hb1⟩
  go_wp2
  go_ret2
  exact ⟨rfl, bel2 ((Below.refl _ _).alloc (Nat.le_refl _) _) hb1⟩
set_option maxHeartbeats 400000 in
theorem rpack_ok (k p g : Nat) (h : Okn 256 k p g) (w : World) :
    Calls Tryd.prog 14 #[.agg #[.int .i64 k, .int .i64 p, .int .u32 g]] w fun e w' => e = .returned (.tuple #[.int .u64 (num k p g), .int .i64 0]) ∧ Below w.heap.size w w' := by
  have HH := Lib.hid h
  obtain ⟨h1, h2, h3, h4, h5⟩ := h
  go_enter Tryd.func14, Tryd.ntmps14
  go_wp2_with fail
  refine (rchk_ok k p g HH.out _).mono ?_
  rintro e w1 ⟨rfl, hb1⟩
  have hc : w1.cell? ⟨w.heap.size, 0, none⟩ = some (.int .i64 k) := by rw [hb1.cell (p := ⟨w.heap.size, 0, none⟩) (by simp)]; go_simp
  have hc1 : w1.cell? ⟨w.heap.size, 1, none⟩ = some (.int .i64 p) := by rw [hb1.cell (p := ⟨w.heap.size, 1, none⟩) (by simp)]; go_simp
  have hc2 : w1.cell? ⟨w.heap.size, 2, none⟩ = some (.int .u32 g) := by rw [hb1.cell (p := ⟨w.heap.size, 2, none⟩) (by simp)]; go_simp
  go_wp2
  go_ret2
  exact ⟨rfl, bel2 ((Below.refl _ _).alloc (Nat.le_refl _) _) hb1⟩
set_option maxHeartbeats 400000 in
theorem rpack_bad (k p g : Int) (hr : Rg k p g) (h : Bad 256 k p g) (w : World) :
    Calls Tryd.prog 14 #[.agg #[.int .i64 k, .int .i64 p, .int .u32 g]] w fun e w' => e = .returned (.tuple #[.int .u64 0, .int .i64 2]) ∧ Below w.heap.size w w' := by
  have HR := Lib.hid hr
  have HH := Lib.hid h
  clear h hr
  go_enter Tryd.func14, Tryd.ntmps14
  go_wp2_with fail
  refine (rchk_bad k p g HR.out HH.out _).mono ?_
  rintro e w1 ⟨rfl, hb1⟩
  go_wp2
  go_ret2
  exact ⟨rfl, bel2 ((Below.refl _ _).alloc (Nat.le_refl _) _) hb1⟩

/-- What a call keeps of a block of three cells that its caller has made. -/
theorem keep3 {w w1 : World} (hb : Below w.heap.size w w1) {b : Nat} (hlt : b < w.heap.size) :
    (∀ o, w1.cell? ⟨b, o, none⟩ = w.cell? ⟨b, o, none⟩) ∧ (∀ o, w1.frozen? ⟨b, o, none⟩ = w.frozen? ⟨b, o, none⟩) ∧ b < w1.heap.size :=
  ⟨fun _ => hb.cell (p := ⟨b, _, none⟩) hlt, fun _ => hb.frozen (p := ⟨b, _, none⟩) hlt, Nat.lt_of_lt_of_le hlt hb.size⟩

set_option maxHeartbeats 400000 in
theorem unpack_ok (n : Int) (k p g : Nat) (h : Okn 256 k p g) (hn0 : 0 ≤ n) (hn1 : n ≤ 18446744073709551615) (hk : n / 1099511627776 = k) (hp : n / 4294967296 % 256 = p) (hg : n % 4294967296 = g) (w : World) :
    Calls Tryd.prog 15 #[.int .u64 n] w fun e w' => e = .returned (.tuple #[.agg #[.int .i64 k, .int .i64 p, .int .u32 g], .int .i64 0]) ∧ Below w.heap.size w w' := by
  have HH := Lib.hid h
  clear h
  go_enter Tryd.func15, Tryd.ntmps15
  go_wp2_with fail
  refine (dchk_ok k p g HH.out _).mono ?_
  rintro e w1 ⟨rfl, hb1⟩
  obtain ⟨kc, kf, ks⟩ := keep3 hb1 (b := w.heap.size) (by simp; omega)
  obtain ⟨jc, jf, js⟩ := keep3 hb1 (b := w.heap.size + 1) (by simp)
  have hc0 : w1.cell? ⟨w.heap.size, 0, none⟩ = some (.int .i64 0) := by rw [kc]; go_simp
  have hc1 : w1.cell? ⟨w.heap.size, 1, none⟩ = some (.int .i64 0) := by rw [kc]; go_simp
  have hc2 : w1.cell? ⟨w.heap.size, 2, none⟩ = some (.int .u32 0) := by rw [kc]; go_simp
  have hf0 : w1.frozen? ⟨w.heap.size, 0, none⟩ = false := by rw [kf]; go_simp
  have hf1 : w1.frozen? ⟨w.heap.size, 1, none⟩ = false := by rw [kf]; go_simp
  have hf2 : w1.frozen? ⟨w.heap.size, 2, none⟩ = false := by rw [kf]; go_simp
  have hd0 : w1.cell? ⟨w.heap.size + 1, 0, none⟩ = some (.int .i64 k) := by rw [jc]; go_simp
  have hd1 : w1.cell? ⟨w.heap.size + 1, 1, none⟩ = some (.int .i64 p) := by rw [jc]; go_simp
  have hd2 : w1.cell? ⟨w.heap.size + 1, 2, none⟩ = some (.int .u32 g) := by rw [jc]; go_simp
  clear kc kf jc jf
  go_wp2
  refine bodyPost_ret (v := .tuple #[.agg #[.int .i64 k, .int .i64 p, .int .u32 g], .int .i64 0]) ?_ rfl ⟨rfl, ?_⟩
  · rw [results_cell_tmp rfl]
    go_simp
  · exact (((bel2 (((Below.refl _ _).alloc (Nat.le_refl _) _).alloc (by simp) _) hb1).setCell (Nat.le_refl _) _).setCell (Nat.le_refl _) _).setCell (Nat.le_refl _) _
end Go.Proofs.YtnjmlecbljeofaaDoor
