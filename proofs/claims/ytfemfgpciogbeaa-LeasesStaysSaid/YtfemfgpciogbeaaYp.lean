/- The contracts of slices.Index and slices.Contains on leases, and of there. -/
import Derived.Test.YtfemfgpciogbeaaYo
namespace Go.Proofs.Ytfemfgpciogbeaa
open Go.RowKit

/-- What Index gives: a place, or -1 where there is none. -/
def IdxV (l : List (Nat × Nat)) (s : Nat × Nat) (r : Int) : Prop := (r = -1 ∧ s ∉ l) ∨ (0 ≤ r ∧ s ∈ l)
set_option maxRecDepth 100000 in
set_option maxHeartbeats 2000000 in
theorem index_ok (p : Option Addr) (n c : Nat) (l : List (Nat × Nat)) (s : Nat × Nat) (w : World) (hl : l.length = n) (hn : n ≤ 1000) (h : RdO w (.slice p n c) (l.map lro)) :
    Calls Try.prog 61 #[.slice p n c, .agg #[.int .i64 3, .int .i64 s.1, .int .u32 s.2]] w fun e w' => ∃ r, e = .returned (.int .i64 r) ∧ IdxV l s r ∧ -1 ≤ r ∧ Below w.heap.size w w' := by
  obtain ⟨i, g⟩ := s
  have H := Lib.hid h
  have hB := Bk.new w 33 #[.int .i64 3, .int .i64 i, .int .u32 g]
  have HB := Lib.hid (bal w (.cells #[.int .i64 3, .int .i64 i, .int .u32 g] 33))
  have FC : Hid (∀ W, Below (w.alloc (.cells #[.int .i64 3, .int .i64 i, .int .u32 g] 33)).heap.size (w.alloc (.cells #[.int .i64 3, .int .i64 i, .int .u32 g] 33)) W → W.cell? ⟨w.heap.size, 0, none⟩ = some (.int .i64 3) ∧ W.cell? ⟨w.heap.size, 1, none⟩ = some (.int .i64 i) ∧ W.cell? ⟨w.heap.size, 2, none⟩ = some (.int .u32 g) ∧ w.heap.size < W.heap.size) := fun W hW => ob_cells (hB.below hW)
  have hnz : (n : Int) ≤ 1000 := by omega
  clear h hB
  go_enter Try.func61, Try.ntmps61
  go_wp2
  generalize w.alloc (.cells #[.int .i64 3, .int .i64 i, .int .u32 g] 33) = w1 at *
  go_loopw [8] (fun v wr => ∃ j : Nat, j ≤ n ∧ v = .int .i64 j ∧ Hid (Below w1.heap.size w1 wr) ∧ Hid ((i, g) ∉ l.take j)) (fun v _ => n - (intOf v).toNat)
  case atStart => exact ⟨0, Nat.zero_le _, rfl, Below.refl _ _, by simp [Hid]⟩
  case round =>
    obtain ⟨j, hj, rfl, HW, HN⟩ := hrel
    by_cases hlt : j < n
    · obtain ⟨a0, a1, a2, a3⟩ := FC.out wr HW.out
      obtain ⟨x, hx⟩ : ∃ x, l[j]? = some x := ⟨_, List.getElem?_eq_getElem (by omega)⟩
      have hjm : j < (l.map lro).length := by simp; omega
      obtain ⟨q, off, rfl, hq, t0, t1, t2⟩ := ((H.out.below HB.out).below HW.out).cell hjm
      have ex : (l.map lro)[j] = lro x := by
        have : (l.map lro)[j]? = some (lro x) := by simp [hx]
        exact (List.getElem?_eq_some_iff.1 this).2
      rw [ex] at t0 t1 t2
      have NX : Hid (x ≠ (i, g) → (i, g) ∉ l.take (j + 1)) := fun hne => by
        rw [List.take_add_one, hx]
        simp only [Option.toList_some, List.mem_append, List.mem_singleton, not_or]
        exact ⟨HN.out, fun e => hne e.symm⟩
      have HM := Lib.hid (List.mem_of_getElem? hx)
      clear ex hjm hx
      obtain ⟨i', g'⟩ := x
      simp only [lro] at t0 t1 t2
      by_cases c1 : i = i'
      · subst c1
        by_cases c2 : g = g'
        · subst c2
          go_wp2
          go_quiet (fail)
          go_wp2
          go_ret
          exact ⟨j, rfl, .inr ⟨by omega, HM.out⟩, by omega, HB.out.trans ((bel_drewN HW.out _).mono HB.out.size)⟩
        · have d2 : ((g : Int) == (g' : Int)) = false := beq_eq_false_iff_ne.2 (by omega)
          have N2 := Lib.hid (NX.out (by simp; omega))
          clear c2 NX
          go_wp2
          go_quiet (fail)
          go_wp2
          go_roundw
          case rel => exact ⟨j + 1, by omega, by go_num, bel_drewN HW.out _, N2.out⟩
          case measure => simp [intOf]; omega
      · have d2 : ((i : Int) == (i' : Int)) = false := beq_eq_false_iff_ne.2 (by omega)
        have N2 := Lib.hid (NX.out (by simp; omega))
        clear c1 NX
        go_wp2
        go_quiet (fail)
        go_wp2
        go_roundw
        case rel => exact ⟨j + 1, by omega, by go_num, bel_drewN HW.out _, N2.out⟩
        case measure => simp [intOf]; omega
    · obtain rfl : j = n := by omega
      go_wp2
      go_ret
      refine ⟨-1, rfl, .inl ⟨rfl, ?_⟩, by omega, HB.out.trans (HW.out.mono HB.out.size)⟩
      have := HN.out
      rw [List.take_of_length_le (by omega)] at this
      exact this
set_option maxHeartbeats 1000000 in
theorem contains_no (p : Option Addr) (n c : Nat) (l : List (Nat × Nat)) (s : Nat × Nat) (w : World) (hl : l.length = n) (hn : n ≤ 1000) (h : RdO w (.slice p n c) (l.map lro)) (hs : s ∉ l) :
    Calls Try.prog 32 #[.slice p n c, .agg #[.int .i64 3, .int .i64 s.1, .int .u32 s.2]] w fun e w' => e = .returned (.bool false) ∧ Below w.heap.size w w' := by
  have IX := Lib.hid (index_ok p n c l s _ hl hn (h.below (bal w (.cells #[.int .i64 3, .int .i64 s.1, .int .u32 s.2] 33))))
  have HS := Lib.hid hs
  clear h hs
  obtain ⟨i, g⟩ := s
  go_enter Try.func32, Try.ntmps32
  go_wp2_with fail
  refine IX.out.mono ?_
  rintro e w2 ⟨r, rfl, hi, _, hb⟩
  have HB := Lib.hid (bel2 (bal _ _) hb)
  have hr : r = -1 := by
    rcases hi with ⟨h1, _⟩ | ⟨_, h2⟩
    · exact h1
    · exact absurd h2 HS.out
  subst hr
  clear hb hi
  go_wp2
  go_ret
  exact ⟨rfl, HB.out⟩
set_option maxHeartbeats 1000000 in
theorem contains_yes (p : Option Addr) (n c : Nat) (l : List (Nat × Nat)) (s : Nat × Nat) (w : World) (hl : l.length = n) (hn : n ≤ 1000) (h : RdO w (.slice p n c) (l.map lro)) (hs : s ∈ l) :
    Calls Try.prog 32 #[.slice p n c, .agg #[.int .i64 3, .int .i64 s.1, .int .u32 s.2]] w fun e w' => e = .returned (.bool true) ∧ Below w.heap.size w w' := by
  have IX := Lib.hid (index_ok p n c l s _ hl hn (h.below (bal w (.cells #[.int .i64 3, .int .i64 s.1, .int .u32 s.2] 33))))
  have HS := Lib.hid hs
  clear h hs
  obtain ⟨i, g⟩ := s
  go_enter Try.func32, Try.ntmps32
  go_wp2_with fail
  refine IX.out.mono ?_
  rintro e w2 ⟨r, rfl, hi, _, hb⟩
  have HB := Lib.hid (bel2 (bal _ _) hb)
  have hr : 0 ≤ r := by
    rcases hi with ⟨_, h1⟩ | ⟨h1, _⟩
    · exact absurd HS.out h1
    · exact h1
  clear hb hi
  go_wp2
  go_ret
  exact ⟨by simp, HB.out⟩

/-! ### there -/
set_option maxRecDepth 100000 in
set_option maxHeartbeats 2000000 in
theorem there_ok {w0 w : World} {X b k a cl cu n j : Nat} {pl pu : Option Addr} {okb : Bool} {S : Lw} (h : LW w0 w X b k a pl cl pu cu n okb j S) (hj : j ≤ 200) :
    Calls Try.prog 31 #[.pointer (some ⟨X, 0, none⟩)] w fun e w' => e = .returned (.int .i64 (cntP S.U)) ∧ w = w' := by
  obtain ⟨_, _, c2, _, _, hX⟩ := h.cells
  have hn : n ≤ 200 := by have := h.ok.ll; have := h.ln; omega
  have hnz : (n : Int) ≤ 200 := by omega
  have HU := Lib.hid h.un
  have AT : Hid (∀ (q u : Nat), S.U[q]? = some u → ∃ g, pu = some ⟨g, 0, none⟩ ∧ g < w.heap.size ∧ w.cell? ⟨g, q, none⟩ = some (.int .i64 u) ∧ w.frozen? ⟨g, q, none⟩ = false) := fun q u hq => h.atu hq
  clear h
  generalize S.U = U at *
  have HU2 : Hid (cntP U = cntP (U.take n)) := by unfold Hid; rw [List.take_of_length_le (by rw [HU.out]; exact Nat.le_refl _)]
  go_enter Try.func31, Try.ntmps31
  go_wp2
  go_loopw [3, 11] (fun m v wr => ∃ j : Nat, j ≤ n ∧ v = .int .i64 j ∧ m = .int .i64 (cntP (U.take j)) ∧ w = wr) (fun _ v _ => n - (intOf v).toNat)
  case atStart => exact ⟨0, Nat.zero_le _, rfl, by simp [cntP], rfl⟩
  case round =>
    obtain ⟨j, hj2, rfl, rfl, rfl⟩ := hrel
    by_cases hlt : j < n
    · obtain ⟨u, hu⟩ : ∃ u, U[j]? = some u := ⟨_, List.getElem?_eq_getElem (by rw [HU.out]; exact hlt)⟩
      obtain ⟨g, rfl, hg, q0, _⟩ := AT.out j u hu
      have NX := Lib.hid (cntP_take hu)
      have hle : (cntP (U.take j) : Int) ≤ 200 := by have := cntP_le (U.take j); rw [List.length_take] at this; omega
      clear hu
      generalize cntP (U.take j) = z at *
      by_cases c : 0 < u
      · have HN : Hid (cntP (U.take (j + 1)) = z + 1) := by unfold Hid; rw [NX.out, if_pos c]
        have cz : (0 : Int) < u := by omega
        clear NX c
        go_wp2
        go_roundw
        case rel => exact ⟨j + 1, by omega, by go_num, by rw [HN.out]; go_num, trivial⟩
        case measure => simp [intOf]; omega
      · have HN : Hid (cntP (U.take (j + 1)) = z) := by unfold Hid; rw [NX.out, if_neg c]; rfl
        obtain rfl : u = 0 := by omega
        clear NX c
        go_wp2
        go_roundw
        case rel => exact ⟨j + 1, by omega, by go_num, by rw [HN.out], trivial⟩
        case measure => simp [intOf]; omega
    · obtain rfl : j = n := by omega
      go_wp2
      go_ret
      exact ⟨by rw [HU2.out]; rfl, rfl⟩
end Go.Proofs.Ytfemfgpciogbeaa
