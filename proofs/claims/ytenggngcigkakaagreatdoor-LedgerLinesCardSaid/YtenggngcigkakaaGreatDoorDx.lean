/- The contract of the program's read. -/
import Derived.Test.YtenggngcigkakaaGreatDoorDq
namespace Go.Proofs.YtenggngcigkakaaGreatDoor
open Go.RowKit

theorem read_store {w w4 : World} {T : TypeId} (hB : Below (w.alloc (.cells #[.int .i64 0, .int .i64 0, .int .i64 0] T)).heap.size (w.alloc (.cells #[.int .i64 0, .int .i64 0, .int .i64 0] T)) w4) :
    w4.cell? ⟨w.heap.size, 0, none⟩ = some (.int .i64 0) ∧ w4.cell? ⟨w.heap.size, 1, none⟩ = some (.int .i64 0) ∧ w4.cell? ⟨w.heap.size, 2, none⟩ = some (.int .i64 0) ∧
    w4.frozen? ⟨w.heap.size, 0, none⟩ = false ∧ w4.frozen? ⟨w.heap.size, 1, none⟩ = false ∧ w4.frozen? ⟨w.heap.size, 2, none⟩ = false ∧ w.heap.size < w4.heap.size := by
  obtain ⟨kc, kf, ks⟩ := keep3 hB (b := w.heap.size) (by simp)
  refine ⟨?_, ?_, ?_, ?_, ?_, ?_, ks⟩
  · rw [kc]; go_simp
  · rw [kc]; go_simp
  · rw [kc]; go_simp
  · rw [kf]; go_simp
  · rw [kf]; go_simp
  · rw [kf]; go_simp

set_option maxHeartbeats 1000000 in
set_option maxRecDepth 100000 in
theorem read_f (m : UInt8) (hm : Mark m) (s : ByteArray) (hs : s.size ≤ 100000) (h1 : Lib.hasPrefix s.data.toList [102] = true) (w : World) (he : Env w) :
    Calls Tryz.prog 134 #[.string s, .string ⟨#[m]⟩] w fun e w' => ReadV m s e ∧ Below w.heap.size w w' := by
  have HS := Lib.hid hs
  have HM := Lib.hid hm
  have HE := Lib.hid he
  have hl1 := he.l1
  have hl2 := he.l2
  have hl3 := he.l3
  have h0 : (6 : Nat) < w.heap.size := World.block_lt_of_cell? _ _ hl1
  have h00 : (6 : Nat) ≠ w.heap.size := by omega
  have i0 : ∀ w, (Instr.index 166 (.agg #[.string ⟨#[102]⟩, .string ⟨#[98]⟩, .string ⟨#[108]⟩]) (.int .i64 0)).run Tryz.prog w = .ok (.string ⟨#[102]⟩) w := fun _ => by kernel_rfl
  have i1 : ∀ w, (Instr.index 166 (.agg #[.string ⟨#[102]⟩, .string ⟨#[98]⟩, .string ⟨#[108]⟩]) (.int .i64 1)).run Tryz.prog w = .ok (.string ⟨#[98]⟩) w := fun _ => by kernel_rfl
  have i2 : ∀ w, (Instr.index 166 (.agg #[.string ⟨#[102]⟩, .string ⟨#[98]⟩, .string ⟨#[108]⟩]) (.int .i64 2)).run Tryz.prog w = .ok (.string ⟨#[108]⟩) w := fun _ => by kernel_rfl
  have H1 := Lib.hid h1
  clear hs hm he h1
  go_enter Tryz.func134, Tryz.ntmps134
  go_wp2
  refine wp_loop_rounds 4 ?_
  rw [rounds_succ]
  go_wp2_with fail
  refine (pre_yes 102 s HS.out H1.out _).mono ?_
  rintro e w1 ⟨r, hr1, hr2, rfl, rfl⟩
  have HR := Lib.hid (And.intro hr1 hr2)
  have HB0 := Lib.hid (show Below w.heap.size w (w.alloc (.cells #[.int .i64 0, .int .i64 0, .int .i64 0] 121)) from (Below.refl _ _).alloc (Nat.le_refl _) _)
  have HE1 := Lib.hid (HE.out.below HB0.out)
  clear hr1 hr2
  go_wp2_with fail
  refine (cut_any m HM.out r HR.out.1 _ HE1.out).mono ?_
  rintro e w2 ⟨a, b, f, hab, hcut, rfl, hb2⟩
  have HC := Lib.hid (And.intro hab hcut)
  have HE2 := Lib.hid (HE1.out.below hb2)
  clear hab hcut
  go_wp2_with fail
  refine (pint_any a (by have := HC.out.1.1; omega) _ HE2.out.sent).mono ?_
  rintro e w3 ⟨v, x, hv, hvp, rfl, hb3⟩
  have HV := Lib.hid hvp
  have HE3 := Lib.hid (HE2.out.below hb3)
  clear hvp
  go_wp2_with fail
  refine (gparse_any b (by have := HC.out.1.2; omega) _ HE3.out).mono ?_
  rintro e w4 ⟨u, y, hu, hup, rfl, hb4⟩
  have HU := Lib.hid hup
  have HB4 := Lib.hid (bel2 (bel2 hb2 hb3) hb4)
  obtain ⟨z0, z1, z2, f0, f1, f2, zs⟩ := read_store HB4.out
  clear hup hb2 hb3 hb4
  go_wp2
  refine bodyPost_ret (v := .agg #[.int .i64 1, .int .i64 v, .int .i64 u]) (by simp [results, Tryz.results134, z0, z1, z2, go_sem]) rfl ⟨⟨1, v, u, ⟨by omega, by omega, hv.1, hv.2, hu.1, hu.2⟩, rfl, fun N K P G hO hN hT => ?_⟩, ?_⟩
  · obtain ⟨e1, e2⟩ := HR.out.2 m K P G hT
    obtain ⟨e3, e4⟩ := HC.out.2 P G e2
    refine ⟨?_, HV.out P (by have := hO.p1; omega) e3, HU.out G hO.g1 hO.g2 e4⟩
    have := letter_inj (a := 1) (by omega) (by omega) hO.k1 hO.k3 e1
    omega
  · exact (((HB0.out.trans (HB4.out.mono (by simp))).setCell (Nat.le_refl _) _).setCell (Nat.le_refl _) _).setCell (Nat.le_refl _) _

set_option maxHeartbeats 1000000 in
set_option maxRecDepth 100000 in
theorem read_b (m : UInt8) (hm : Mark m) (s : ByteArray) (hs : s.size ≤ 100000) (h1 : Lib.hasPrefix s.data.toList [102] = false) (h2 : Lib.hasPrefix s.data.toList [98] = true) (w : World) (he : Env w) :
    Calls Tryz.prog 134 #[.string s, .string ⟨#[m]⟩] w fun e w' => ReadV m s e ∧ Below w.heap.size w w' := by
  have HS := Lib.hid hs
  have HM := Lib.hid hm
  have HE := Lib.hid he
  have hl1 := he.l1
  have hl2 := he.l2
  have hl3 := he.l3
  have h0 : (6 : Nat) < w.heap.size := World.block_lt_of_cell? _ _ hl1
  have h00 : (6 : Nat) ≠ w.heap.size := by omega
  have i0 : ∀ w, (Instr.index 166 (.agg #[.string ⟨#[102]⟩, .string ⟨#[98]⟩, .string ⟨#[108]⟩]) (.int .i64 0)).run Tryz.prog w = .ok (.string ⟨#[102]⟩) w := fun _ => by kernel_rfl
  have i1 : ∀ w, (Instr.index 166 (.agg #[.string ⟨#[102]⟩, .string ⟨#[98]⟩, .string ⟨#[108]⟩]) (.int .i64 1)).run Tryz.prog w = .ok (.string ⟨#[98]⟩) w := fun _ => by kernel_rfl
  have i2 : ∀ w, (Instr.index 166 (.agg #[.string ⟨#[102]⟩, .string ⟨#[98]⟩, .string ⟨#[108]⟩]) (.int .i64 2)).run Tryz.prog w = .ok (.string ⟨#[108]⟩) w := fun _ => by kernel_rfl
  have H1 := Lib.hid h1
  have H2 := Lib.hid h2
  clear hs hm he h1 h2
  go_enter Tryz.func134, Tryz.ntmps134
  go_wp2
  refine wp_loop_rounds 4 ?_
  rw [rounds_succ]
  go_wp2_with fail
  refine (pre_no 102 s H1.out _).mono ?_
  rintro e w10 ⟨r0, rfl, rfl⟩
  go_wp2
  rw [rounds_succ]
  go_wp2_with fail
  refine (pre_yes 98 s HS.out H2.out _).mono ?_
  rintro e w1 ⟨r, hr1, hr2, rfl, rfl⟩
  have HR := Lib.hid (And.intro hr1 hr2)
  have HB0 := Lib.hid (show Below w.heap.size w (w.alloc (.cells #[.int .i64 0, .int .i64 0, .int .i64 0] 121)) from (Below.refl _ _).alloc (Nat.le_refl _) _)
  have HE1 := Lib.hid (HE.out.below HB0.out)
  clear hr1 hr2
  go_wp2_with fail
  refine (cut_any m HM.out r HR.out.1 _ HE1.out).mono ?_
  rintro e w2 ⟨a, b, f, hab, hcut, rfl, hb2⟩
  have HC := Lib.hid (And.intro hab hcut)
  have HE2 := Lib.hid (HE1.out.below hb2)
  clear hab hcut
  go_wp2_with fail
  refine (pint_any a (by have := HC.out.1.1; omega) _ HE2.out.sent).mono ?_
  rintro e w3 ⟨v, x, hv, hvp, rfl, hb3⟩
  have HV := Lib.hid hvp
  have HE3 := Lib.hid (HE2.out.below hb3)
  clear hvp
  go_wp2_with fail
  refine (gparse_any b (by have := HC.out.1.2; omega) _ HE3.out).mono ?_
  rintro e w4 ⟨u, y, hu, hup, rfl, hb4⟩
  have HU := Lib.hid hup
  have HB4 := Lib.hid (bel2 (bel2 hb2 hb3) hb4)
  obtain ⟨z0, z1, z2, f0, f1, f2, zs⟩ := read_store HB4.out
  clear hup hb2 hb3 hb4
  go_wp2
  refine bodyPost_ret (v := .agg #[.int .i64 2, .int .i64 v, .int .i64 u]) (by simp [results, Tryz.results134, z0, z1, z2, go_sem]) rfl ⟨⟨2, v, u, ⟨by omega, by omega, hv.1, hv.2, hu.1, hu.2⟩, rfl, fun N K P G hO hN hT => ?_⟩, ?_⟩
  · obtain ⟨e1, e2⟩ := HR.out.2 m K P G hT
    obtain ⟨e3, e4⟩ := HC.out.2 P G e2
    refine ⟨?_, HV.out P (by have := hO.p1; omega) e3, HU.out G hO.g1 hO.g2 e4⟩
    have := letter_inj (a := 2) (by omega) (by omega) hO.k1 hO.k3 e1
    omega
  · exact (((HB0.out.trans (HB4.out.mono (by simp))).setCell (Nat.le_refl _) _).setCell (Nat.le_refl _) _).setCell (Nat.le_refl _) _

set_option maxHeartbeats 1000000 in
set_option maxRecDepth 100000 in
theorem read_l (m : UInt8) (hm : Mark m) (s : ByteArray) (hs : s.size ≤ 100000) (h1 : Lib.hasPrefix s.data.toList [102] = false) (h2 : Lib.hasPrefix s.data.toList [98] = false) (h3 : Lib.hasPrefix s.data.toList [108] = true) (w : World) (he : Env w) :
    Calls Tryz.prog 134 #[.string s, .string ⟨#[m]⟩] w fun e w' => ReadV m s e ∧ Below w.heap.size w w' := by
  have HS := Lib.hid hs
  have HM := Lib.hid hm
  have HE := Lib.hid he
  have hl1 := he.l1
  have hl2 := he.l2
  have hl3 := he.l3
  have h0 : (6 : Nat) < w.heap.size := World.block_lt_of_cell? _ _ hl1
  have h00 : (6 : Nat) ≠ w.heap.size := by omega
  have i0 : ∀ w, (Instr.index 166 (.agg #[.string ⟨#[102]⟩, .string ⟨#[98]⟩, .string ⟨#[108]⟩]) (.int .i64 0)).run Tryz.prog w = .ok (.string ⟨#[102]⟩) w := fun _ => by kernel_rfl
  have i1 : ∀ w, (Instr.index 166 (.agg #[.string ⟨#[102]⟩, .string ⟨#[98]⟩, .string ⟨#[108]⟩]) (.int .i64 1)).run Tryz.prog w = .ok (.string ⟨#[98]⟩) w := fun _ => by kernel_rfl
  have i2 : ∀ w, (Instr.index 166 (.agg #[.string ⟨#[102]⟩, .string ⟨#[98]⟩, .string ⟨#[108]⟩]) (.int .i64 2)).run Tryz.prog w = .ok (.string ⟨#[108]⟩) w := fun _ => by kernel_rfl
  have H1 := Lib.hid h1
  have H2 := Lib.hid h2
  have H3 := Lib.hid h3
  clear hs hm he h1 h2 h3
  go_enter Tryz.func134, Tryz.ntmps134
  go_wp2
  refine wp_loop_rounds 4 ?_
  rw [rounds_succ]
  go_wp2_with fail
  refine (pre_no 102 s H1.out _).mono ?_
  rintro e w10 ⟨r0, rfl, rfl⟩
  go_wp2
  rw [rounds_succ]
  go_wp2_with fail
  refine (pre_no 98 s H2.out _).mono ?_
  rintro e w11 ⟨r1, rfl, rfl⟩
  go_wp2
  rw [rounds_succ]
  go_wp2_with fail
  refine (pre_yes 108 s HS.out H3.out _).mono ?_
  rintro e w1 ⟨r, hr1, hr2, rfl, rfl⟩
  have HR := Lib.hid (And.intro hr1 hr2)
  have HB0 := Lib.hid (show Below w.heap.size w (w.alloc (.cells #[.int .i64 0, .int .i64 0, .int .i64 0] 121)) from (Below.refl _ _).alloc (Nat.le_refl _) _)
  have HE1 := Lib.hid (HE.out.below HB0.out)
  clear hr1 hr2
  go_wp2_with fail
  refine (cut_any m HM.out r HR.out.1 _ HE1.out).mono ?_
  rintro e w2 ⟨a, b, f, hab, hcut, rfl, hb2⟩
  have HC := Lib.hid (And.intro hab hcut)
  have HE2 := Lib.hid (HE1.out.below hb2)
  clear hab hcut
  go_wp2_with fail
  refine (pint_any a (by have := HC.out.1.1; omega) _ HE2.out.sent).mono ?_
  rintro e w3 ⟨v, x, hv, hvp, rfl, hb3⟩
  have HV := Lib.hid hvp
  have HE3 := Lib.hid (HE2.out.below hb3)
  clear hvp
  go_wp2_with fail
  refine (gparse_any b (by have := HC.out.1.2; omega) _ HE3.out).mono ?_
  rintro e w4 ⟨u, y, hu, hup, rfl, hb4⟩
  have HU := Lib.hid hup
  have HB4 := Lib.hid (bel2 (bel2 hb2 hb3) hb4)
  obtain ⟨z0, z1, z2, f0, f1, f2, zs⟩ := read_store HB4.out
  clear hup hb2 hb3 hb4
  go_wp2
  refine bodyPost_ret (v := .agg #[.int .i64 3, .int .i64 v, .int .i64 u]) (by simp [results, Tryz.results134, z0, z1, z2, go_sem]) rfl ⟨⟨3, v, u, ⟨by omega, by omega, hv.1, hv.2, hu.1, hu.2⟩, rfl, fun N K P G hO hN hT => ?_⟩, ?_⟩
  · obtain ⟨e1, e2⟩ := HR.out.2 m K P G hT
    obtain ⟨e3, e4⟩ := HC.out.2 P G e2
    refine ⟨?_, HV.out P (by have := hO.p1; omega) e3, HU.out G hO.g1 hO.g2 e4⟩
    have := letter_inj (a := 3) (by omega) (by omega) hO.k1 hO.k3 e1
    omega
  · exact (((HB0.out.trans (HB4.out.mono (by simp))).setCell (Nat.le_refl _) _).setCell (Nat.le_refl _) _).setCell (Nat.le_refl _) _

set_option maxHeartbeats 1000000 in
set_option maxRecDepth 100000 in
theorem read_none (m : UInt8) (hm : Mark m) (s : ByteArray) (hs : s.size ≤ 100000) (h1 : Lib.hasPrefix s.data.toList [102] = false) (h2 : Lib.hasPrefix s.data.toList [98] = false) (h3 : Lib.hasPrefix s.data.toList [108] = false) (w : World) (he : Env w) :
    Calls Tryz.prog 134 #[.string s, .string ⟨#[m]⟩] w fun e w' => ReadV m s e ∧ Below w.heap.size w w' := by
  have HS := Lib.hid hs
  have HM := Lib.hid hm
  have HE := Lib.hid he
  have hl1 := he.l1
  have hl2 := he.l2
  have hl3 := he.l3
  have h0 : (6 : Nat) < w.heap.size := World.block_lt_of_cell? _ _ hl1
  have h00 : (6 : Nat) ≠ w.heap.size := by omega
  have i0 : ∀ w, (Instr.index 166 (.agg #[.string ⟨#[102]⟩, .string ⟨#[98]⟩, .string ⟨#[108]⟩]) (.int .i64 0)).run Tryz.prog w = .ok (.string ⟨#[102]⟩) w := fun _ => by kernel_rfl
  have i1 : ∀ w, (Instr.index 166 (.agg #[.string ⟨#[102]⟩, .string ⟨#[98]⟩, .string ⟨#[108]⟩]) (.int .i64 1)).run Tryz.prog w = .ok (.string ⟨#[98]⟩) w := fun _ => by kernel_rfl
  have i2 : ∀ w, (Instr.index 166 (.agg #[.string ⟨#[102]⟩, .string ⟨#[98]⟩, .string ⟨#[108]⟩]) (.int .i64 2)).run Tryz.prog w = .ok (.string ⟨#[108]⟩) w := fun _ => by kernel_rfl
  have H1 := Lib.hid h1
  have H2 := Lib.hid h2
  have H3 := Lib.hid h3
  clear hs hm he h1 h2 h3
  go_enter Tryz.func134, Tryz.ntmps134
  go_wp2
  refine wp_loop_rounds 4 ?_
  rw [rounds_succ]
  go_wp2_with fail
  refine (pre_no 102 s H1.out _).mono ?_
  rintro e w10 ⟨r0, rfl, rfl⟩
  go_wp2
  rw [rounds_succ]
  go_wp2_with fail
  refine (pre_no 98 s H2.out _).mono ?_
  rintro e w11 ⟨r1, rfl, rfl⟩
  go_wp2
  rw [rounds_succ]
  go_wp2_with fail
  refine (pre_no 108 s H3.out _).mono ?_
  rintro e w12 ⟨r2, rfl, rfl⟩
  go_wp2
  rw [rounds_succ]
  go_wp2
  refine bodyPost_ret (v := .agg #[.int .i64 0, .int .i64 0, .int .i64 0]) (by simp [results, Tryz.results134, go_sem]) rfl ⟨⟨0, 0, 0, ⟨by omega, by omega, by omega, by omega, by omega, by omega⟩, rfl, fun N K P G hO hN hT => ?_⟩, ?_⟩
  · exfalso
    have g1 := H1.out
    have g2 := H2.out
    have g3 := H3.out
    rw [hT, pre_txt] at g1 g2 g3
    have h : K = 1 ∨ K = 2 ∨ K = 3 := by have := hO.k1; have := hO.k3; omega
    rcases h with rfl | rfl | rfl
    · exact absurd g1 (by decide)
    · exact absurd g2 (by decide)
    · exact absurd g3 (by decide)
  · exact (Below.refl _ _).alloc (Nat.le_refl _) _

theorem read_any (m : UInt8) (hm : Mark m) (s : ByteArray) (hs : s.size ≤ 100000) (w : World) (he : Env w) :
    Calls Tryz.prog 134 #[.string s, .string ⟨#[m]⟩] w fun e w' => ReadV m s e ∧ Below w.heap.size w w' := by
  cases h1 : Lib.hasPrefix s.data.toList [102] with
  | true => exact read_f m hm s hs h1 w he
  | false =>
    cases h2 : Lib.hasPrefix s.data.toList [98] with
    | true => exact read_b m hm s hs h1 h2 w he
    | false =>
      cases h3 : Lib.hasPrefix s.data.toList [108] with
      | true => exact read_l m hm s hs h1 h2 h3 w he
      | false => exact read_none m hm s hs h1 h2 h3 w he
end Go.Proofs.YtenggngcigkakaaGreatDoor
