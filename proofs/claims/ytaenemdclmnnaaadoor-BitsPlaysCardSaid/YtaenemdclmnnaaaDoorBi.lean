/- The contracts of slices.Equal at []int (equal lists), and of Add, Remove, Has, Next at every number. -/
import Derived.Test.YtaenemdclmnnaaaDoorBh
import Derived.Test.YtaenemdclmnnaaaDoorBr
namespace Go.Proofs.YtaenemdclmnnaaaDoor
open Go.RowKit

/-- The slice value v reads as the numbers l. -/
def Sl (w : World) (v : Value) (l : List Nat) : Prop :=
  ∃ a c, v = .slice a l.length c ∧ l.length ≤ 4096 ∧ (0 < l.length → ∃ g o, a = some ⟨g, o, none⟩ ∧ g < w.heap.size ∧ ∀ j (h : j < l.length), w.cell? ⟨g, o + j, none⟩ = some (.int .i64 ((l[j] : Nat) : Int)))
theorem Sl.below {w w' : World} {v : Value} {l : List Nat} (h : Sl w v l) (hb : Below w.heap.size w w') : Sl w' v l := by
  obtain ⟨a, c, e, hl, h⟩ := h
  refine ⟨a, c, e, hl, fun h0 => ?_⟩
  obtain ⟨g, o, e2, hg, hc⟩ := h h0
  exact ⟨g, o, e2, Nat.lt_of_lt_of_le hg hb.size, fun j hj => (hb.cell (p := ⟨g, o + j, none⟩) hg).trans (hc j hj)⟩
theorem Sl.kept {w w' : World} {v : Value} {l : List Nat} {S : Nat → Prop} (h : Sl w v l) (hb : Kept S w w') (hs : ∀ k, S k → ∀ a c, v = .slice (some a) l.length c → a.block ≠ k) : Sl w' v l := by
  obtain ⟨a, c, e, hl, h⟩ := h
  refine ⟨a, c, e, hl, fun h0 => ?_⟩
  obtain ⟨g, o, e2, hg, hc⟩ := h h0
  have hn : ¬ S g := fun hx => hs g hx ⟨g, o, none⟩ c (by rw [e, e2]) rfl
  exact ⟨g, o, e2, Nat.lt_of_lt_of_le hg hb.size, fun j hj => (World.cell?_of_block (a := ⟨g, o + j, none⟩) (hb.block g hg hn)).trans (hc j hj)⟩
theorem Sl.of_own {w : World} {b : Nat} {v : Value} {l : List Nat} (h : w.ownsRow b 3 1 v l.length (ints l)) (hl : l.length ≤ 4096) : Sl w v l := by
  rcases h.2 with ⟨rfl, h0⟩ | ⟨g, cap, cur, rfl, h1, h2, h3⟩
  · have : l = [] := List.eq_nil_of_length_eq_zero h0
    subst this
    exact ⟨none, 0, rfl, hl, fun h => by simp at h⟩
  · refine ⟨_, cap, rfl, hl, fun h0 => ⟨g, 0, rfl, (Array.getElem?_eq_some_iff.1 h2).1, fun j hj => ?_⟩⟩
    have := World.ownsRow.cellAt h j (by omega)
    rw [Nat.zero_add, this]
    simp [ints, hj]
theorem Sl.of_all {w w' : World} {l : List Nat} {v : Value} (h : w'.ownsRow w.heap.size 3 1 v l.length (ints l)) (hl : l.length ≤ 4096) : Sl w' v l := Sl.of_own h hl

set_option maxHeartbeats 400000 in
theorem equal_zero (a b : Option Addr) (c d : Nat) (w : World) :
    Calls Tryd.prog 33 #[.slice a 0 c, .slice b 0 d] w fun e w' => e = .returned (.bool true) ∧ ∃ q, w' = w.drewN q := by
  go_enter Tryd.func33, Tryd.ntmps33
  go_wp2
  go_loopw [13] (fun i wr => i = .int .i64 0 ∧ wr = w) (fun _ _ => 0)
  case atStart => exact ⟨rfl, rfl⟩
  case round =>
    obtain ⟨rfl, rfl⟩ := hrel
    go_wp2
    go_ret
    exact ⟨rfl, 0, rfl⟩
set_option maxHeartbeats 400000 in
theorem equal_some (g o g2 o2 n c d : Nat) (l : Nat → Nat) (w : World) (hn : n ≤ 4096)
    (h1 : ∀ j, j < n → w.cell? ⟨g, o + j, none⟩ = some (.int .i64 ((l j : Nat) : Int))) (h2 : ∀ j, j < n → w.cell? ⟨g2, o2 + j, none⟩ = some (.int .i64 ((l j : Nat) : Int))) :
    Calls Tryd.prog 33 #[.slice (some ⟨g, o, none⟩) n c, .slice (some ⟨g2, o2, none⟩) n d] w fun e w' => e = .returned (.bool true) ∧ ∃ q, w' = w.drewN q := by
  have H1 := Lib.hid h1
  have H2 := Lib.hid h2
  have hd : ((n : Int) != (n : Int)) = false := by simp
  clear h1 h2
  go_enter Tryd.func33, Tryd.ntmps33
  go_wp2
  go_loopw [13] (fun i wr => ∃ k q : Nat, k ≤ n ∧ i = .int .i64 k ∧ wr = w.drewN q) (fun i _ => n - (intOf i).toNat)
  case atStart => exact ⟨0, 0, Nat.zero_le _, rfl, rfl⟩
  case round =>
    obtain ⟨k, q, hk, rfl, rfl⟩ := hrel
    by_cases hlt : k < n
    · have hx := H1.out k hlt
      have hy := H2.out k hlt
      have hne : (((l k : Nat) : Int) != ((l k : Nat) : Int)) = false := by simp
      generalize l k = x at *
      go_wp2
      go_quiet (fail)
      go_wp2
      go_roundw
      case rel => exact ⟨k + 1, _, by omega, by go_num, rfl⟩
      case measure => simp [intOf]; omega
    · obtain rfl : k = n := by omega
      go_wp2
      go_ret
      exact ⟨rfl, _, rfl⟩
theorem equal_yes (u v : Value) (l : List Nat) (w : World) (h1 : Sl w u l) (h2 : Sl w v l) :
    Calls Tryd.prog 33 #[u, v] w fun e w' => e = .returned (.bool true) ∧ ∃ q, w' = w.drewN q := by
  obtain ⟨a, c, rfl, hl, h1⟩ := h1
  obtain ⟨b, d, rfl, _, h2⟩ := h2
  by_cases h0 : 0 < l.length
  · obtain ⟨g, o, rfl, _, h1⟩ := h1 h0
    obtain ⟨g2, o2, rfl, _, h2⟩ := h2 h0
    exact equal_some g o g2 o2 l.length c d (fun j => l[j]?.getD 0) w hl (fun j hj => by rw [h1 j hj]; simp [hj]) (fun j hj => by rw [h2 j hj]; simp [hj])
  · have : l.length = 0 := by omega
    rw [this]
    exact equal_zero a b c d w

/-! ### at every number -/
def addE (n : Nat) (i : Int) : Int := if 0 ≤ i ∧ i < n then 0 else 3
def setF (f : Nat → Bool) (n : Nat) (i : Int) (v : Bool) : Nat → Bool := if 0 ≤ i ∧ i < n then upd f i.toNat v else f
theorem add_any (b g n : Nat) (f : Nat → Bool) (i : Int) (w : World) (h : SetW w b g n f) : Calls Tryd.prog 13 #[.pointer (some ⟨b, 0, none⟩), .int .i64 i] w fun e w' => e = .returned (.int .i64 (addE n i)) ∧ SetW w' b g n (setF f n i true) ∧ Kept (· = g) w w' := by
  by_cases hi : 0 ≤ i ∧ i < n
  · obtain ⟨k, rfl⟩ : ∃ k : Nat, i = k := ⟨i.toNat, by omega⟩
    have := add_in b g n f k w h (by omega)
    simpa [addE, setF, hi] using this
  · unfold addE setF
    rw [if_neg hi, if_neg hi]
    exact (add_out b g n f i w h (by omega)).mono fun e w' ⟨h1, h2⟩ => ⟨h1, h2 ▸ h, h2 ▸ Kept.refl _ _⟩
theorem remove_any (b g n : Nat) (f : Nat → Bool) (i : Int) (w : World) (h : SetW w b g n f) : Calls Tryd.prog 15 #[.pointer (some ⟨b, 0, none⟩), .int .i64 i] w fun e w' => e = .returned (.int .i64 (addE n i)) ∧ SetW w' b g n (setF f n i false) ∧ Kept (· = g) w w' := by
  by_cases hi : 0 ≤ i ∧ i < n
  · obtain ⟨k, rfl⟩ : ∃ k : Nat, i = k := ⟨i.toNat, by omega⟩
    have := remove_in b g n f k w h (by omega)
    simpa [addE, setF, hi] using this
  · unfold addE setF
    rw [if_neg hi, if_neg hi]
    exact (remove_out b g n f i w h (by omega)).mono fun e w' ⟨h1, h2⟩ => ⟨h1, h2 ▸ h, h2 ▸ Kept.refl _ _⟩
def hasE (f : Nat → Bool) (n : Nat) (i : Int) : Bool := if 0 ≤ i ∧ i < n then f i.toNat else false
theorem has_any (b g n : Nat) (f : Nat → Bool) (i : Int) (w : World) (h : SetW w b g n f) : Calls Tryd.prog 27 #[.pointer (some ⟨b, 0, none⟩), .int .i64 i] w fun e w' => e = .returned (.bool (hasE f n i)) ∧ Below w.heap.size w w' := by
  by_cases hi : 0 ≤ i ∧ i < n
  · obtain ⟨k, rfl⟩ : ∃ k : Nat, i = k := ⟨i.toNat, by omega⟩
    refine (has_in b g n f k w h (by omega)).mono ?_
    rintro e w' ⟨h1, q, rfl⟩
    exact ⟨by rw [h1]; simp [hasE, hi], bel_drewN (Below.refl _ _) q⟩
  · unfold hasE
    rw [if_neg hi]
    exact (has_out b g n f i w h (by omega)).mono fun e w' ⟨h1, h2⟩ => ⟨h1, h2 ▸ Below.refl _ _⟩
theorem kept_below {w w' : World} {g B : Nat} (h : Kept (· = g) w w') (hB : B ≤ w.heap.size) (hg : B ≤ g) : Below B w w' := h.below hB (fun k e => by omega)
end Go.Proofs.YtaenemdclmnnaaaDoor
