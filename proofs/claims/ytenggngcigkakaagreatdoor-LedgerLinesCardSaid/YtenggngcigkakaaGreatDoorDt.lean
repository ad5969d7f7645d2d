/- The contracts of the program's texts: text, Text, OuterText. -/
import Derived.Test.YtenggngcigkakaaGreatDoorDe
import Derived.Deep.RegionWith
import Derived.StillTailTactics
import Derived.IntWalk
import Derived.Laws.ResultCell
namespace Go.Proofs.YtenggngcigkakaaGreatDoor
open Go.RowKit

theorem digs_size (u : Nat) (h : u ≤ 4294967295) : (⟨(Lib.decDigits u).toArray⟩ : ByteArray).size ≤ 20 := decBytes_size u h

/-- The letters as the walk reads them. -/
theorem Env.lett {w : World} (he : Env w) (j : Nat) (hj : j < 3) : w.cell? ⟨6, j, none⟩ = some (.string ⟨#[letter (j + 1)]⟩) := by
  have h : j = 0 ∨ j = 1 ∨ j = 2 := by omega
  rcases h with rfl | rfl | rfl
  · exact he.l1
  · exact he.l2
  · exact he.l3

set_option maxHeartbeats 1000000 in
set_option maxRecDepth 100000 in
theorem wtext_j (m : UInt8) (n kk : Int) (N j p g : Nat) (hn : n = N) (hk : kk = ((j + 1 : Nat) : Int)) (h : Okn N (j + 1) p g) (hN : N ≤ 256) (w : World) (he : Env w) :
    Calls Tryz.prog 107 #[.agg #[.int .i64 kk, .int .i64 p, .int .i64 g], .string ⟨#[m]⟩, .int .i64 n] w fun e w' => e = .returned (.tuple #[.string ⟨(txt m (j + 1) p g).toArray⟩, .int .i64 0]) ∧ Below w.heap.size w w' := by
  subst hn
  rw [← cat_txt]
  have HC := Lib.hid (show ∀ W : World, Calls Tryz.prog 79 #[.agg #[.int .i64 kk, .int .i64 p, .int .i64 g], .int .i64 N] W fun e w' => e = .returned (.int .i64 0) ∧ Below W.heap.size W w' from fun W => by subst hk; exact chk_ok N (j + 1) p g h hN W)
  obtain ⟨h1, h2, h3, h4, h5⟩ := h
  have HE := Lib.hid he
  clear he
  have hs1 : (Lib.decDigits p).length ≤ 10 := (digits_len p (by omega)).2
  have hs2 : (Lib.decDigits g).length ≤ 10 := (digits_len g (by omega)).2
  have hj : j < 3 := by omega
  have hw2 : (kk - 1) = (j : Int) := by omega
  have hw1 : IntKind.i64.wrap (kk - 1) = (j : Int) := by rw [IntWalk.i64_in _ (by omega)]; omega
  have hw3 : IntKind.i64.wrap (j : Int) = (j : Int) := IntWalk.i64_in _ (by omega)
  have hb1 : (0 : Int) ≤ (j : Int) := by omega
  have hb2 : (j : Int) < 3 := by omega
  clear hk h1 h2
  go_enter Tryz.func107, Tryz.ntmps107
  go_wp2_with fail
  refine (HC.out _).mono ?_
  rintro e w1 ⟨rfl, hb1⟩
  have HB1 := Lib.hid (bel2 ((Below.refl _ _).alloc (Nat.le_refl _) _) hb1 : Below w.heap.size w w1)
  have hc : w1.cell? ⟨w.heap.size, 0, none⟩ = some (.int .i64 kk) := by rw [hb1.cell (p := ⟨w.heap.size, 0, none⟩) (by simp)]; go_simp
  have hc1 : w1.cell? ⟨w.heap.size, 1, none⟩ = some (.int .i64 p) := by rw [hb1.cell (p := ⟨w.heap.size, 1, none⟩) (by simp)]; go_simp
  have hc2 : w1.cell? ⟨w.heap.size, 2, none⟩ = some (.int .i64 g) := by rw [hb1.cell (p := ⟨w.heap.size, 2, none⟩) (by simp)]; go_simp
  have HE1 := Lib.hid (HE.out.below HB1.out)
  clear hb1
  go_wp2_with fail
  refine (text_ok g h4 h5 _ (.inr HE1.out.tab)).mono ?_
  rintro e w2 ⟨rfl, hb2⟩
  have HC2 := Lib.hid (And.intro (cell_stays hb2 hc) (cell_stays hb2 hc1))
  have HB2 := Lib.hid (bel2 HB1.out hb2)
  have HE2 := Lib.hid (HE1.out.below hb2)
  clear hc hc1 hc2 hb2
  obtain ⟨hc, hc1⟩ := HC2.out
  have hl := HE2.out.lett j hj
  have hb2 : (j : Int) < 3 := by omega
  go_wp2
  go_region_with (go_at_call 85; refine (fmtInt p (by omega) _ (HE2.out.below (bel_dr _))).mono ?_; rintro e w3 ⟨rfl, hb3⟩; have k0 := cell_stays hb3 hc; have k1 := cell_stays hb3 hc1; have k2 := cell_stays hb3 hl)
  all_goals
    clear k0 k1 k2
    go_wp2
    go_ret2
    exact ⟨rfl, bel2 HB2.out (bel2 (bel_dr _) hb3)⟩

end Go.Proofs.YtenggngcigkakaaGreatDoor
