/- The contract of the document's Same. -/
import Derived.Test.YtjhgckaaaonbiaaUo
import Derived.Deep.QuietTactic
import Derived.BigQuiet
namespace Go.Proofs.Ytjhgckaaaonbiaa
open Go.RowKit

set_option maxHeartbeats 2000000 in
theorem dsame_yes (p p2 : Option Addr) (q c c2 : Nat) (L : List Ro) (hq : L.length = q) (hq1 : q ≤ 64) (w : World) (h1 : RdO w (.slice p q c) L) (h2 : RdO w (.slice p2 q c2) L) : Calls Try.prog 35 #[.slice p q c, .slice p2 q c2] w fun e w' => e = .returned (.bool true) ∧ Below w.heap.size w w' := by
  have H1 := Lib.hid h1
  have H2 := Lib.hid h2
  clear h1 h2
  go_enter Try.func35, Try.ntmps35
  go_wp2
  go_loopw [5] (fun u wr => ∃ i : Nat, i ≤ q ∧ u = .int .i64 i ∧ Hid (Below w.heap.size w wr)) (fun u _ => q - (intOf u).toNat)
  case atStart => exact ⟨0, Nat.zero_le _, rfl, Below.refl _ _⟩
  case round =>
    obtain ⟨i, hi, rfl, HB⟩ := hrel
    by_cases hlt : i < q
    · obtain ⟨g, off, rfl, hg, t0, t1, t2⟩ := (H1.out.below HB.out).cell (j := i) (by omega)
      obtain ⟨g', off', rfl, hg', s0, s1, s2⟩ := (H2.out.below HB.out).cell (j := i) (by omega)
      generalize L[i] = e at *
      obtain ⟨x, y, z⟩ := e
      simp only at t0 t1 t2 s0 s1 s2
      go_wp2
      go_quiet (fail)
      go_wp2
      go_roundw
      case rel => exact ⟨i + 1, by omega, by go_num, bel_drewN HB.out _⟩
      case measure => simp [intOf]; omega
    · obtain rfl : i = q := by omega
      go_wp2
      go_ret
      exact ⟨rfl, HB.out⟩
end Go.Proofs.Ytjhgckaaaonbiaa
