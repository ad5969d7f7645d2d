/- The contracts of the program's parse, Parse and ParseOuter. -/
import Derived.Test.YtenggngcigkakaaGreatDoorDx
namespace Go.Proofs.YtenggngcigkakaaGreatDoor
open Go.RowKit

theorem txt_bytes {m : UInt8} {n k p g : Nat} (h : Okn n k p g) (hn : n ≤ 256) : (⟨(txt m k p g).toArray⟩ : ByteArray).size ≤ 22 := by
  have := txt_size (m := m) h hn
  simp only [ByteArray.size, List.size_toArray]
  omega

theorem read_store32 {w w4 : World} {T : TypeId} (hB : Below (w.alloc (.cells #[.int .i64 0, .int .i64 0, .int .u32 0] T)).heap.size (w.alloc (.cells #[.int .i64 0, .int .i64 0, .int .u32 0] T)) w4) :
    w4.cell? ⟨w.heap.size, 0, none⟩ = some (.int .i64 0) ∧ w4.cell? ⟨w.heap.size, 1, none⟩ = some (.int .i64 0) ∧ w4.cell? ⟨w.heap.size, 2, none⟩ = some (.int .u32 0) ∧
    w4.frozen? ⟨w.heap.size, 0, none⟩ = false ∧ w4.frozen? ⟨w.heap.size, 1, none⟩ = false ∧ w4.frozen? ⟨w.heap.size, 2, none⟩ = false ∧ w.heap.size < w4.heap.size := by
  obtain ⟨kc, kf, ks⟩ := keep3 hB (b := w.heap.size) (by simp)
  refine ⟨?_, ?_, ?_, ?_, ?_, ?_, ks⟩
  · rw [kc]; go_simp
  · rw [kc]; go_simp
  · rw [kc]; go_simp
  · rw [kf]; go_simp
  · rw [kf]; go_simp
  · rw [kf]; go_simp

set_option maxHeartbeats 1000000 in
theorem wparse_yes (m : UInt8) (hm : Mark m) (n : Int) (N k p g : Nat) (hn : n = N) (h : Okn N k p g) (hN : N ≤ 256) (w : World) (he : Env w) :
    Calls Tryz.prog 114 #[.string ⟨(txt m k p g).toArray⟩, .string ⟨#[m]⟩, .int .i64 n] w fun e w' => e = .returned (.tuple #[.agg #[.int .i64 k, .int .i64 p, .int .i64 g], .int .i64 0]) ∧ Below w.heap.size w w' := by
  have HT := Lib.hid (txt_bytes (m := m) h hN)
  have HH := Lib.hid h
  have HM := Lib.hid hm
  have HN := Lib.hid hn
  have HE := Lib.hid he
  clear h hm hn he
  have HB0 := Lib.hid (show Below w.heap.size w (w.alloc (.cells #[.int .i64 0, .int .i64 0, .int .i64 0] 121)) from (Below.refl _ _).alloc (Nat.le_refl _) _)
  go_enter Tryz.func114, Tryz.ntmps114
  go_wp2_with fail
  refine (read_any m HM.out _ (by have := HT.out; omega) _ (HE.out.below HB0.out)).mono ?_
  rintro e w1 ⟨⟨k', p', g', hr, rfl, hex⟩, hb1⟩
  obtain ⟨rfl, rfl, rfl⟩ := hex N k p g HH.out hN rfl
  have HE1 := Lib.hid ((HE.out.below HB0.out).below hb1)
  clear hr hex
  go_wp2_with fail
  refine (wtext_ok m n N k p g HN.out HH.out hN _ (HE1.out.below ((Below.refl _ _).alloc (Nat.le_refl _) _))).mono ?_
  rintro e w2 ⟨rfl, hb2⟩
  have HZ := Lib.hid (show Below (w.alloc (.cells #[.int .i64 0, .int .i64 0, .int .i64 0] 121)).heap.size (w.alloc (.cells #[.int .i64 0, .int .i64 0, .int .i64 0] 121)) w2 from bel2 (hb1.alloc hb1.size _) hb2)
  obtain ⟨z0, z1, z2, f0, f1, f2, zs⟩ := read_store HZ.out
  obtain ⟨kc, kf, ks⟩ := keep3 hb2 (b := w1.heap.size) (by simp)
  have d0 : w2.cell? ⟨w1.heap.size, 0, none⟩ = some (.int .i64 k) := by rw [kc]; go_simp
  have d1 : w2.cell? ⟨w1.heap.size, 1, none⟩ = some (.int .i64 p) := by rw [kc]; go_simp
  have d2 : w2.cell? ⟨w1.heap.size, 2, none⟩ = some (.int .i64 g) := by rw [kc]; go_simp
  have HB := Lib.hid (show Below w.heap.size w w2 from HB0.out.trans (HZ.out.mono (by simp)))
  clear kc kf hb1 hb2
  go_wp2
  refine bodyPost_ret (v := .tuple #[.agg #[.int .i64 k, .int .i64 p, .int .i64 g], .int .i64 0]) ?_ rfl ⟨rfl, ?_⟩
  · rw [results_cell_tmp rfl]
    go_simp
  · exact ((HB.out.setCell (Nat.le_refl _) _).setCell (Nat.le_refl _) _).setCell (Nat.le_refl _) _

set_option maxHeartbeats 1000000 in
theorem wparse_no (m : UInt8) (hm : Mark m) (n : Int) (N : Nat) (s : ByteArray) (hn : n = N) (h : NoName m N s.data.toList) (hs : s.size ≤ 100000) (hN : N ≤ 256) (w : World) (he : Env w) :
    Calls Tryz.prog 114 #[.string s, .string ⟨#[m]⟩, .int .i64 n] w fun e w' => e = .returned (.tuple #[.agg #[.int .i64 0, .int .i64 0, .int .i64 0], .int .i64 9]) ∧ Below w.heap.size w w' := by
  have HS := Lib.hid hs
  have HH := Lib.hid h
  have HM := Lib.hid hm
  have HN := Lib.hid hn
  have HE := Lib.hid he
  clear h hm hn he hs
  have HB0 := Lib.hid (show Below w.heap.size w (w.alloc (.cells #[.int .i64 0, .int .i64 0, .int .i64 0] 121)) from (Below.refl _ _).alloc (Nat.le_refl _) _)
  go_enter Tryz.func114, Tryz.ntmps114
  go_wp2_with fail
  refine (read_any m HM.out s HS.out _ (HE.out.below HB0.out)).mono ?_
  rintro e w1 ⟨⟨k, p, g, hr, rfl, hex⟩, hb1⟩
  have HE1 := Lib.hid ((HE.out.below HB0.out).below hb1)
  clear hex
  rcases ok_or (n := N) hr with ⟨k, p, g, rfl, rfl, rfl, hO⟩ | hbad
  · have hne : (txt m k p g == s.toList) = false := by rw [beq_eq_false_iff_ne, ByteArray.toList_eq]; exact fun e => HH.out k p g hO e.symm
    have HO := Lib.hid hO
    have HNE := Lib.hid hne
    clear hr hO hne
    go_wp2_with fail
    refine (wtext_ok m n N k p g HN.out HO.out hN _ (HE1.out.below ((Below.refl _ _).alloc (Nat.le_refl _) _))).mono ?_
    rintro e w2 ⟨rfl, hb2⟩
    have hne := HNE.out
    have HZ := Lib.hid (show Below (w.alloc (.cells #[.int .i64 0, .int .i64 0, .int .i64 0] 121)).heap.size (w.alloc (.cells #[.int .i64 0, .int .i64 0, .int .i64 0] 121)) w2 from bel2 (hb1.alloc hb1.size _) hb2)
    obtain ⟨z0, z1, z2, f0, f1, f2, zs⟩ := read_store HZ.out
    obtain ⟨kc, kf, ks⟩ := keep3 hb2 (b := w1.heap.size) (by simp)
    have d0 : w2.cell? ⟨w1.heap.size, 0, none⟩ = some (.int .i64 k) := by rw [kc]; go_simp
    have d1 : w2.cell? ⟨w1.heap.size, 1, none⟩ = some (.int .i64 p) := by rw [kc]; go_simp
    have d2 : w2.cell? ⟨w1.heap.size, 2, none⟩ = some (.int .i64 g) := by rw [kc]; go_simp
    have HB := Lib.hid (show Below w.heap.size w w2 from HB0.out.trans (HZ.out.mono (by simp)))
    clear kc kf hb1 hb2
    go_wp2
    refine bodyPost_ret (v := .tuple #[.agg #[.int .i64 0, .int .i64 0, .int .i64 0], .int .i64 9]) ?_ rfl ⟨rfl, ?_⟩
    · rw [results_cell_tmp rfl]
      go_simp
    · exact ((HB.out.setCell (Nat.le_refl _) _).setCell (Nat.le_refl _) _).setCell (Nat.le_refl _) _
  · have HR := Lib.hid hr
    have HX := Lib.hid hbad
    clear hr hbad
    go_wp2_with fail
    refine (wtext_bad m n k p g HR.out (by have := HN.out; omega) (by have := HN.out; have := HX.out; unfold Bad at *; omega) _).mono ?_
    rintro e w2 ⟨rfl, hb2⟩
    have HZ := Lib.hid (show Below (w.alloc (.cells #[.int .i64 0, .int .i64 0, .int .i64 0] 121)).heap.size (w.alloc (.cells #[.int .i64 0, .int .i64 0, .int .i64 0] 121)) w2 from bel2 (hb1.alloc hb1.size _) hb2)
    obtain ⟨z0, z1, z2, f0, f1, f2, zs⟩ := read_store HZ.out
    obtain ⟨kc, kf, ks⟩ := keep3 hb2 (b := w1.heap.size) (by simp)
    have d0 : w2.cell? ⟨w1.heap.size, 0, none⟩ = some (.int .i64 k) := by rw [kc]; go_simp
    have d1 : w2.cell? ⟨w1.heap.size, 1, none⟩ = some (.int .i64 p) := by rw [kc]; go_simp
    have d2 : w2.cell? ⟨w1.heap.size, 2, none⟩ = some (.int .i64 g) := by rw [kc]; go_simp
    have HB := Lib.hid (show Below w.heap.size w w2 from HB0.out.trans (HZ.out.mono (by simp)))
    clear kc kf hb1 hb2
    go_wp2
    refine bodyPost_ret (v := .tuple #[.agg #[.int .i64 0, .int .i64 0, .int .i64 0], .int .i64 9]) ?_ rfl ⟨rfl, ?_⟩
    · rw [results_cell_tmp rfl]
      go_simp
    · exact ((HB.out.setCell (Nat.le_refl _) _).setCell (Nat.le_refl _) _).setCell (Nat.le_refl _) _



set_option maxHeartbeats 1000000 in
theorem oparse_yes (k p g : Nat) (h : Okn 64 k p g) (w : World) (he : Env w) :
    Calls Tryz.prog 92 #[.string ⟨(txt 58 k p g).toArray⟩] w fun e w' => e = .returned (.tuple #[.agg #[.int .i64 k, .int .i64 p, .int .u32 g], .int .i64 0]) ∧ Below w.heap.size w w' := by
  have HH := Lib.hid h
  have HE := Lib.hid he
  have HR : Hid (Rg k p g) := HH.out.rg (by omega)
  clear h he
  have HB0 := Lib.hid (show Below w.heap.size w (w.alloc (.cells #[.int .i64 0, .int .i64 0, .int .u32 0] 25)) from (Below.refl _ _).alloc (Nat.le_refl _) _)
  go_enter Tryz.func92, Tryz.ntmps92
  go_wp2_with fail
  refine (wparse_yes 58 (.inr rfl) 64 64 k p g rfl HH.out (by omega) _ (HE.out.below HB0.out)).mono ?_
  rintro e w1 ⟨rfl, hb1⟩
  go_wp2_with fail
  refine (outer_ok _ _ _ HR.out _).mono ?_
  rintro e w2 ⟨rfl, hb2⟩
  have HZ := Lib.hid (show Below (w.alloc (.cells #[.int .i64 0, .int .i64 0, .int .u32 0] 25)).heap.size (w.alloc (.cells #[.int .i64 0, .int .i64 0, .int .u32 0] 25)) w2 from bel2 (hb1.alloc hb1.size _) hb2)
  obtain ⟨z0, z1, z2, f0, f1, f2, zs⟩ := read_store32 HZ.out
  have HB := Lib.hid (show Below w.heap.size w w2 from HB0.out.trans (HZ.out.mono (by simp)))
  clear hb1 hb2
  go_wp2
  refine bodyPost_ret (v := .tuple #[.agg #[.int .i64 k, .int .i64 p, .int .u32 g], .int .i64 0]) ?_ rfl ⟨rfl, ?_⟩
  · rw [results_cell_tmp rfl]
    go_simp
  · exact ((HB.out.setCell (Nat.le_refl _) _).setCell (Nat.le_refl _) _).setCell (Nat.le_refl _) _

set_option maxHeartbeats 1000000 in
theorem oparse_no (s : ByteArray) (hs : s.size ≤ 100000) (h : NoName 58 64 s.data.toList) (w : World) (he : Env w) :
    Calls Tryz.prog 92 #[.string s] w fun e w' => e = .returned (.tuple #[.agg #[.int .i64 0, .int .i64 0, .int .u32 0], .int .i64 9]) ∧ Below w.heap.size w w' := by
  have HH := Lib.hid h
  have HS := Lib.hid hs
  have HE := Lib.hid he
  have HR : Hid (Rg 0 0 0) := ⟨by omega, by omega, by omega, by omega, by omega, by omega⟩
  clear h he hs
  have HB0 := Lib.hid (show Below w.heap.size w (w.alloc (.cells #[.int .i64 0, .int .i64 0, .int .u32 0] 25)) from (Below.refl _ _).alloc (Nat.le_refl _) _)
  go_enter Tryz.func92, Tryz.ntmps92
  go_wp2_with fail
  refine (wparse_no 58 (.inr rfl) 64 64 s rfl HH.out HS.out (by omega) _ (HE.out.below HB0.out)).mono ?_
  rintro e w1 ⟨rfl, hb1⟩
  go_wp2_with fail
  refine (outer_ok _ _ _ HR.out _).mono ?_
  rintro e w2 ⟨rfl, hb2⟩
  have HZ := Lib.hid (show Below (w.alloc (.cells #[.int .i64 0, .int .i64 0, .int .u32 0] 25)).heap.size (w.alloc (.cells #[.int .i64 0, .int .i64 0, .int .u32 0] 25)) w2 from bel2 (hb1.alloc hb1.size _) hb2)
  obtain ⟨z0, z1, z2, f0, f1, f2, zs⟩ := read_store32 HZ.out
  have HB := Lib.hid (show Below w.heap.size w w2 from HB0.out.trans (HZ.out.mono (by simp)))
  clear hb1 hb2
  go_wp2
  refine bodyPost_ret (v := .tuple #[.agg #[.int .i64 0, .int .i64 0, .int .u32 0], .int .i64 9]) ?_ rfl ⟨rfl, ?_⟩
  · rw [results_cell_tmp rfl]
    go_simp
  · exact ((HB.out.setCell (Nat.le_refl _) _).setCell (Nat.le_refl _) _).setCell (Nat.le_refl _) _
end Go.Proofs.YtenggngcigkakaaGreatDoor
