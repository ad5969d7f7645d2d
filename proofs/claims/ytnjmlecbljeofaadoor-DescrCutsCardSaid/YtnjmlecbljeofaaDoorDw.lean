/- Unpack where the number is that of no descriptor, the document's Unpack; Order. -/
import Derived.Test.YtnjmlecbljeofaaDoorDu
import Derived.Test.YtnjmlecbljeofaaDoorDo
namespace Go.Proofs.YtnjmlecbljeofaaDoor
open Go.RowKit

/-- The three numbers of a number. -/
def Bn (n : Int) : Prop := n < 1099511627776 ∨ 4398046511104 ≤ n ∨ n % 4294967296 = 0

set_option maxHeartbeats 400000 in
theorem unpack_bad (n : Int) (hn0 : 0 ≤ n) (hn1 : n ≤ 18446744073709551615) (h : Bn n) (w : World) :
    Calls Tryd.prog 15 #[.int .u64 n] w fun e w' => e = .returned (.tuple #[.agg #[.int .i64 0, .int .i64 0, .int .u32 0], .int .i64 2]) ∧ Below w.heap.size w w' := by
  unfold Bn at h
  have HR : Hid (Rg (n / 1099511627776) (n / 4294967296 % 256) (n % 4294967296)) := ⟨by omega, by omega, by omega, by omega, by omega, by omega⟩
  have HH : Hid (Bad 256 (n / 1099511627776) (n / 4294967296 % 256) (n % 4294967296)) := by show Bad _ _ _ _; unfold Bad; omega
  clear h
  go_enter Tryd.func15, Tryd.ntmps15
  go_wp2_with fail
  refine (dchk_bad _ _ _ HR.out HH.out _).mono ?_
  rintro e w1 ⟨rfl, hb1⟩
  obtain ⟨kc, kf, ks⟩ := keep3 hb1 (b := w.heap.size) (by simp; omega)
  have hc0 : w1.cell? ⟨w.heap.size, 0, none⟩ = some (.int .i64 0) := by rw [kc]; go_simp
  have hc1 : w1.cell? ⟨w.heap.size, 1, none⟩ = some (.int .i64 0) := by rw [kc]; go_simp
  have hc2 : w1.cell? ⟨w.heap.size, 2, none⟩ = some (.int .u32 0) := by rw [kc]; go_simp
  have hf0 : w1.frozen? ⟨w.heap.size, 0, none⟩ = false := by rw [kf]; go_simp
  have hf1 : w1.frozen? ⟨w.heap.size, 1, none⟩ = false := by rw [kf]; go_simp
  have hf2 : w1.frozen? ⟨w.heap.size, 2, none⟩ = false := by rw [kf]; go_simp
  clear kc kf
  go_wp2
  refine bodyPost_ret (v := .tuple #[.agg #[.int .i64 0, .int .i64 0, .int .u32 0], .int .i64 2]) ?_ rfl ⟨rfl, ?_⟩
  · rw [results_cell_tmp rfl]
    go_simp
  · exact (((bel2 (((Below.refl _ _).alloc (Nat.le_refl _) _).alloc (by simp) _) hb1).setCell (Nat.le_refl _) _).setCell (Nat.le_refl _) _).setCell (Nat.le_refl _) _

set_option maxHeartbeats 400000 in
theorem runpack_ok (n : Int) (k p g : Nat) (h : Okn 256 k p g) (hn0 : 0 ≤ n) (hn1 : n ≤ 18446744073709551615) (hk : n / 1099511627776 = k) (hp : n / 4294967296 % 256 = p) (hg : n % 4294967296 = g) (w : World) :
    Calls Tryd.prog 16 #[.int .u64 n] w fun e w' => e = .returned (.tuple #[.agg #[.int .i64 k, .int .i64 p, .int .u32 g], .int .i64 0]) ∧ Below w.heap.size w w' := by
  have hlt : n < 4398046511104 := by have := h.k3; omega
  have HH := Lib.hid h
  clear h
  go_enter Tryd.func16, Tryd.ntmps16
  go_wp2_with fail
  refine (rchk_ok k p g HH.out _).mono ?_
  rintro e w1 ⟨rfl, hb1⟩
  obtain ⟨kc, kf, ks⟩ := keep3 hb1 (b := w.heap.size) (by simp; omega)
  obtain ⟨jc, jf, js⟩ := keep3 hb1 (b := w.heap.size + 1) (by simp)
  have hc0 : w1.cell? ⟨w.heap.size, 0, none⟩ = some (.int .i64 0) := by rw [kc]; go_simp
  have hc1 : w1.cell? ⟨w.heap.size, 1, none⟩ = some (.int .i64 0) := by rw [kc]; go_simp
  have hc2 : w1.cell? ⟨w.heap.size, 2, none⟩ = some (.int .u32 0) := by rw [kc]; go_simp
  have hf0 : w1.frozen? ⟨w.heap.size, 0, none⟩ = false := by rw [kf]; go_simp
  have hf1 : w1.frozen? ⟨w.heap.size, 1, none⟩ = false := by rw [kf]; go_simp
  have hf2 : w1.frozen? ⟨w.heap.size, 2, none⟩ = false := by rw [kf]; go_simp
  have hd0 : w1.cell? ⟨w.heap.size + 1, 0, none⟩ = some (.int .i64 k) := by rw [jc]; go_simp
  have hd1 : w1.cell? ⟨w.heap.size + 1, 1, none⟩ = some (.int .i64 p) := by rw [jc]; go_simp
  have hd2 : w1.cell? ⟨w.heap.size + 1, 2, none⟩ = some (.int .u32 g) := by rw [jc]; go_simp
  clear kc kf jc jf
  go_wp2
  refine bodyPost_ret (v := .tuple #[.agg #[.int .i64 k, .int .i64 p, .int .u32 g], .int .i64 0]) ?_ rfl ⟨rfl, ?_⟩
  · rw [results_cell_tmp rfl]
    go_simp
  · exact (((bel2 (((Below.refl _ _).alloc (Nat.le_refl _) _).alloc (by simp) _) hb1).setCell (Nat.le_refl _) _).setCell (Nat.le_refl _) _).setCell (Nat.le_refl _) _

set_option maxHeartbeats 400000 in
theorem runpack_big (n : Int) (_hn0 : 0 ≤ n) (_hn1 : n ≤ 18446744073709551615) (h : 4398046511104 ≤ n) (w : World) :
    Calls Tryd.prog 16 #[.int .u64 n] w fun e w' => e = .returned (.tuple #[.agg #[.int .i64 0, .int .i64 0, .int .u32 0], .int .i64 2]) ∧ Below w.heap.size w w' := by
  go_enter Tryd.func16, Tryd.ntmps16
  go_wp2
  refine bodyPost_ret (v := .tuple #[.agg #[.int .i64 0, .int .i64 0, .int .u32 0], .int .i64 2]) ?_ rfl ⟨rfl, ?_⟩
  · rw [results_cell_tmp rfl]
    go_simp
  · exact (Below.refl _ _).alloc (Nat.le_refl _) _

set_option maxHeartbeats 400000 in
theorem runpack_bad (n : Int) (hn0 : 0 ≤ n) (hn1 : n ≤ 18446744073709551615) (h : Bn n) (w : World) :
    Calls Tryd.prog 16 #[.int .u64 n] w fun e w' => e = .returned (.tuple #[.agg #[.int .i64 0, .int .i64 0, .int .u32 0], .int .i64 2]) ∧ Below w.heap.size w w' := by
  by_cases hlt : 4398046511104 ≤ n
  · exact runpack_big n hn0 hn1 hlt w
  unfold Bn at h
  have HR : Hid (Rg (n / 1099511627776) (n / 4294967296 % 256) (n % 4294967296)) := ⟨by omega, by omega, by omega, by omega, by omega, by omega⟩
  have HH : Hid (Bad 256 (n / 1099511627776) (n / 4294967296 % 256) (n % 4294967296)) := by show Bad _ _ _ _; unfold Bad; omega
  clear h
  go_enter Tryd.func16, Tryd.ntmps16
  go_wp2_with fail
  refine (rchk_bad _ _ _ HR.out HH.out _).mono ?_
  rintro e w1 ⟨rfl, hb1⟩
  obtain ⟨kc, kf, ks⟩ := keep3 hb1 (b := w.heap.size) (by simp; omega)
  have hc0 : w1.cell? ⟨w.heap.size, 0, none⟩ = some (.int .i64 0) := by rw [kc]; go_simp
  have hc1 : w1.cell? ⟨w.heap.size, 1, none⟩ = some (.int .i64 0) := by rw [kc]; go_simp
  have hc2 : w1.cell? ⟨w.heap.size, 2, none⟩ = some (.int .u32 0) := by rw [kc]; go_simp
  have hf0 : w1.frozen? ⟨w.heap.size, 0, none⟩ = false := by rw [kf]; go_simp
  have hf1 : w1.frozen? ⟨w.heap.size, 1, none⟩ = false := by rw [kf]; go_simp
  have hf2 : w1.frozen? ⟨w.heap.size, 2, none⟩ = false := by rw [kf]; go_simp
  clear kc kf
  go_wp2
  refine bodyPost_ret (v := .tuple #[.agg #[.int .i64 0, .int .i64 0, .int .u32 0], .int .i64 2]) ?_ rfl ⟨rfl, ?_⟩
  · rw [results_cell_tmp rfl]
    go_simp
  · exact (((bel2 (((Below.refl _ _).alloc (Nat.le_refl _) _).alloc (by simp) _) hb1).setCell (Nat.le_refl _) _).setCell (Nat.le_refl _) _).setCell (Nat.le_refl _) _
end Go.Proofs.YtnjmlecbljeofaaDoor
