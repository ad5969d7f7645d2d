/- The contracts of the document's Parse and ParseOuter. -/
import Derived.Test.YtenggngcigkakaaGreatDoorDzb
namespace Go.Proofs.YtenggngcigkakaaGreatDoor
open Go.RowKit

theorem txt_inj2 {m : UInt8} (hm : Mark m) {n k p g k' p' g' : Nat} (h1 : 1 ≤ k) (h3 : k ≤ 3) (h' : Okn n k' p' g') (e : txt m k p g = txt m k' p' g') : k = k' ∧ p = p' ∧ g = g' := by
  unfold txt at e
  rw [List.cons.injEq] at e
  obtain ⟨e1, e2⟩ := split_eq (digit_ne hm p) (digit_ne hm p') e.2
  exact ⟨letter_inj h1 h3 h'.k1 h'.k3 e.1, digits_inj e1, digits_inj e2⟩



set_option maxHeartbeats 1000000 in
theorem roparse_yes (k p g : Nat) (h : Okn 64 k p g) (w : World) :
    Calls Tryz.prog 96 #[.string ⟨(txt 58 k p g).toArray⟩] w fun e w' => e = .returned (.tuple #[.agg #[.int .i64 k, .int .i64 p, .int .u32 g], .int .i64 0]) ∧ Below w.heap.size w w' := by
  have HT := Lib.hid (txt_bytes (m := 58) h (by omega))
  have HH := Lib.hid h
  obtain ⟨h1, h2, h3, h4, h5⟩ := h
  have HB0 := Lib.hid (show Below w.heap.size w (w.alloc (.cells #[.int .i64 0, .int .i64 0, .int .u32 0] 25)) from (Below.refl _ _).alloc (Nat.le_refl _) _)
  go_enter Tryz.func96, Tryz.ntmps96
  go_wp2_with fail
  refine (parts_any 58 (.inr rfl) _ (by have := HT.out; omega) _).mono ?_
  rintro e w1 ⟨⟨k', p', g', ok, _, hp9, hg9, rfl, ht, hf⟩, hb1⟩
  cases ok with
  | false => exact absurd rfl (hf rfl 64 k p g HH.out (by omega))
  | true =>
    obtain ⟨e1, e2, e3⟩ := ht rfl
    obtain ⟨rfl, rfl, rfl⟩ : k = k' ∧ p = p' ∧ g = g' := by
      have hl := txt_inj (m := 58) (.inr rfl) HH.out (⟨e1, by omega, ?_, ?_, e2⟩ : Okn 10000000000 k' p' g') e3
      · exact hl
      · omega
      · rcases Nat.eq_zero_or_pos g' with h0 | h0
        · exfalso
          subst h0
          have := (txt_inj2 (m := 58) (.inr rfl) e1 (by omega) HH.out e3.symm).2.2
          omega
        · exact h0
    clear ht hf e3 hp9 hg9
    go_wp2_with fail
    refine (rochk_ok k p g HH.out _).mono ?_
    rintro e w2 ⟨rfl, hb2⟩
    have HZ := Lib.hid (show Below (w.alloc (.cells #[.int .i64 0, .int .i64 0, .int .u32 0] 25)).heap.size (w.alloc (.cells #[.int .i64 0, .int .i64 0, .int .u32 0] 25)) w2 from bel2 (hb1.alloc hb1.size _) hb2)
    obtain ⟨z0, z1, z2, f0, f1, f2, zs⟩ := read_store32 HZ.out
    obtain ⟨kc, kf, ks⟩ := keep3 hb2 (b := w1.heap.size) (by simp)
    have d0 : w2.cell? ⟨w1.heap.size, 0, none⟩ = some (.int .i64 k) := by rw [kc]; go_simp
    have d1 : w2.cell? ⟨w1.heap.size, 1, none⟩ = some (.int .i64 p) := by rw [kc]; go_simp
    have d2 : w2.cell? ⟨w1.heap.size, 2, none⟩ = some (.int .u32 g) := by rw [kc]; go_simp
    have HB := Lib.hid (show Below w.heap.size w w2 from HB0.out.trans (HZ.out.mono (by simp)))
    clear kc kf hb1 hb2
    go_wp2
    refine bodyPost_ret (v := .tuple #[.agg #[.int .i64 k, .int .i64 p, .int .u32 g], .int .i64 0]) ?_ rfl ⟨rfl, ?_⟩
    · rw [results_cell_tmp rfl]
      go_simp
    · exact ((HB.out.setCell (Nat.le_refl _) _).setCell (Nat.le_refl _) _).setCell (Nat.le_refl _) _

set_option maxHeartbeats 1000000 in
theorem roparse_no (s : ByteArray) (hs : s.size ≤ 100000) (h : NoName 58 64 s.data.toList) (w : World) :
    Calls Tryz.prog 96 #[.string s] w fun e w' => e = .returned (.tuple #[.agg #[.int .i64 0, .int .i64 0, .int .u32 0], .int .i64 9]) ∧ Below w.heap.size w w' := by
  have HH := Lib.hid h
  have HS := Lib.hid hs
  clear h hs
  have HB0 := Lib.hid (show Below w.heap.size w (w.alloc (.cells #[.int .i64 0, .int .i64 0, .int .u32 0] 25)) from (Below.refl _ _).alloc (Nat.le_refl _) _)
  go_enter Tryz.func96, Tryz.ntmps96
  go_wp2_with fail
  refine (parts_any 58 (.inr rfl) s HS.out _).mono ?_
  rintro e w1 ⟨⟨k, p, g, ok, hk3, hp9, hg9, rfl, ht, hf⟩, hb1⟩
  cases ok with
  | false =>
    clear ht hf
    have HZ := Lib.hid (show Below (w.alloc (.cells #[.int .i64 0, .int .i64 0, .int .u32 0] 25)).heap.size (w.alloc (.cells #[.int .i64 0, .int .i64 0, .int .u32 0] 25)) w1 from hb1)
    obtain ⟨z0, z1, z2, f0, f1, f2, zs⟩ := read_store32 HZ.out
    have HB := Lib.hid (show Below w.heap.size w w1 from HB0.out.trans (HZ.out.mono (by simp)))
    have hne : w.heap.size ≠ w1.heap.size := by omega
    clear hb1
    go_wp2
    refine bodyPost_ret (v := .tuple #[.agg #[.int .i64 0, .int .i64 0, .int .u32 0], .int .i64 9]) ?_ rfl ⟨rfl, ?_⟩
    · rw [results_cell_tmp rfl]
      go_simp
    · first
      | exact HB.out.alloc HB.out.size _
      | exact (((HB.out.setCell (Nat.le_refl _) _).setCell (Nat.le_refl _) _).setCell (Nat.le_refl _) _).alloc (by simpa using HB.out.size) _
  | true =>
    obtain ⟨e1, e2, e3⟩ := ht rfl
    have HR : Hid (Rg k p g) := ⟨by omega, by omega, by omega, by omega, by omega, by omega⟩
    have HX : Hid (Bad 64 k p g) := by
      rcases ok_or (n := 64) HR.out with ⟨k', p', g', h1, h2, h3, hO⟩ | hb
      · exfalso
        have h1' : k = k' := by omega
        have h2' : p = p' := by omega
        have h3' : g = g' := by omega
        subst h1' h2' h3'
        exact HH.out k p g hO e3
      · exact hb
    clear ht hf e3
    go_wp2_with fail
    refine (rochk_bad k p g HR.out HX.out _).mono ?_
    rintro e w2 ⟨rfl, hb2⟩
    have HZ := Lib.hid (show Below (w.alloc (.cells #[.int .i64 0, .int .i64 0, .int .u32 0] 25)).heap.size (w.alloc (.cells #[.int .i64 0, .int .i64 0, .int .u32 0] 25)) w2 from bel2 (hb1.alloc hb1.size _) hb2)
    obtain ⟨z0, z1, z2, f0, f1, f2, zs⟩ := read_store32 HZ.out
    obtain ⟨kc, kf, ks⟩ := keep3 hb2 (b := w1.heap.size) (by simp)
    have d0 : w2.cell? ⟨w1.heap.size, 0, none⟩ = some (.int .i64 k) := by rw [kc]; go_simp
    have d1 : w2.cell? ⟨w1.heap.size, 1, none⟩ = some (.int .i64 p) := by rw [kc]; go_simp
    have d2 : w2.cell? ⟨w1.heap.size, 2, none⟩ = some (.int .u32 g) := by rw [kc]; go_simp
    have HB := Lib.hid (show Below w.heap.size w w2 from HB0.out.trans (HZ.out.mono (by simp)))
    clear kc kf hb1 hb2
    go_wp2
    refine bodyPost_ret (v := .tuple #[.agg #[.int .i64 0, .int .i64 0, .int .u32 0], .int .i64 9]) ?_ rfl ⟨rfl, ?_⟩
    · rw [results_cell_tmp rfl]
      go_simp
    · exact ((HB.out.setCell (Nat.le_refl _) _).setCell (Nat.le_refl _) _).setCell (Nat.le_refl _) _
end Go.Proofs.YtenggngcigkakaaGreatDoor
