/- What a []uint16 among the arguments holds; contracts in the shape that the walks over made sets use. -/
import Derived.Test.YtaenemdclmnnaaaDoorBx
import Derived.Test.YtaenemdclmnnaaaDoorBv
import Derived.Carry
namespace Go.Proofs.YtaenemdclmnnaaaDoor
open Go.ChangeShapes Go.WideShapes Go.ChangeAt Go.RowKit

theorem laidOut : laidOutB Tryd.prog = true := by kernel_rfl
theorem cells_u16 : Tryd.prog.cellsOf 50 = 1 := by kernel_rfl
theorem u16s_of {H : Type} {enc : TypeId × Value → H} {W : World} {a : Option Addr} {len cap : Nat} {d : DataW H} {p : List MemPlace} (h : DataW.Trod enc Tryd.prog W 0 (fun _ => true) true 51 (.slice a len cap) d p) : ∃ c, U16s W a len cap c := by
  obtain ⟨fuel, hf⟩ := h
  rcases open_ints Tryd.underlying51 Tryd.underlying50 cells_u16 hf with ⟨hcs, hx⟩ | ⟨a', len', cap', zs, hcs, _, hl, hm, hz, hx, hcell, hwz⟩
  · simp [Value.cells] at hcs
    obtain ⟨rfl, rfl, rfl⟩ := hcs
    exact ⟨fun _ => 0, Nat.le_refl _, by omega, fun h => by omega, fun _ _ => by omega, fun _ => rfl⟩
  · simp [Value.cells] at hcs
    obtain ⟨rfl, rfl, rfl⟩ := hcs
    simp only [if_true] at hz
    refine ⟨fun j => (zs.getD j 0).toNat, hl, by unfold maxLen at hm; omega, fun h0 => ?_, fun j hj => ?_, fun e => by cases e⟩
    · obtain ⟨b, off, spot⟩ := a'
      have hspot : spot = none := by simpa [Addr.add] using World.cell?_spot (hcell 0 (by omega))
      subst hspot
      have hcl : ∀ j, j < len → W.cell? ⟨b, off + j, none⟩ = some (.int .u16 (((zs.getD j 0).toNat : Nat) : Int)) := by
        intro j hj
        have h := hcell j (by omega)
        rw [add_plain] at h
        have hmem : zs.getD j 0 ∈ zs := by
          rw [List.getD_eq_getElem?_getD, List.getElem?_eq_getElem (by omega), Option.getD_some]; exact List.getElem_mem _
        have hb := bounds_u16 (hwz _ hmem)
        rw [h, Int.toNat_of_nonneg hb.1]
      exact ⟨b, off, rfl, World.block_lt_of_cell? _ _ (hcl 0 (by omega)), hcl⟩
    · have hmem : zs.getD j 0 ∈ zs := by
        rw [List.getD_eq_getElem?_getD, List.getElem?_eq_getElem (by omega), Option.getD_some]; exact List.getElem_mem _
      have hb := bounds_u16 (hwz _ hmem)
      omega

/-- listed, told as a slice that reads as l. -/
theorem listed_s (h n c : Nat) (f : Nat → Bool) (l : List Nat) (w : World) (hn : n ≤ 4096) (hb : Bl w h n f) (hl : lst f n = l) :
    Calls Tryd.prog 32 #[.slice (some ⟨h, 0, none⟩) n c] w (AllS l w) := by
  subst hl
  refine (listed_ok h n c f w hn hb).mono ?_
  rintro e w' ⟨v, rfl, h1, _, h3⟩
  have hlen : (lst f n).length ≤ 4096 := by have := lst_len f n; omega
  refine ⟨v, rfl, Sl.of_own h1 hlen, ?_, h3⟩
  rintro a k d rfl
  rcases h1.2 with ⟨e, _⟩ | ⟨g, cap, cur, e, h4, _⟩
  · cases e
  · injection e with e; injection e with e; subst e; exact h4
end Go.Proofs.YtaenemdclmnnaaaDoor
