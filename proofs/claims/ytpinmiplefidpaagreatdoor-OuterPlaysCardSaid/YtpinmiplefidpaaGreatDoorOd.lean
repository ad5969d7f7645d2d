/- The contracts of slices.Index and slices.Contains on resources. -/
import Derived.Test.YtpinmiplefidpaaGreatDoorOa
import Derived.BigQuiet
import Derived.Deep.QuietTactic
namespace Go.Proofs.YtpinmiplefidpaaGreatDoor
open Go.RowKit

/-- What Index gives: a place, or -1 where there is none. -/
def IdxO (l : List Ro) (s : Ro) (r : Int) : Prop := (r = -1 ∧ s ∉ l) ∨ (0 ≤ r ∧ s ∈ l)
set_option maxRecDepth 100000 in
set_option maxHeartbeats 2000000 in
theorem oindex_ok (p : Option Addr) (n c : Nat) (l : List Ro) (k i g : Int) (w : World) (hl : l.length = n) (hn : n ≤ 1000) (h : RdO w (.slice p n c) l) :
    Calls Tryz.prog 134 #[.slice p n c, .agg #[.int .i64 k, .int .i64 i, .int .u32 g]] w fun e w' => ∃ r, e = .returned (.int .i64 r) ∧ IdxO l ⟨k, i, g⟩ r ∧ -1 ≤ r ∧ Below w.heap.size w w' := by
  have H := Lib.hid h
  have hB := Bk.new w 25 #[.int .i64 k, .int .i64 i, .int .u32 g]
  have HB := Lib.hid (bel_new w (.cells #[.int .i64 k, .int .i64 i, .int .u32 g] 25))
  have FC : Hid (∀ W, Below (w.alloc (.cells #[.int .i64 k, .int .i64 i, .int .u32 g] 25)).heap.size (w.alloc (.cells #[.int .i64 k, .int .i64 i, .int .u32 g] 25)) W → W.cell? ⟨w.heap.size, 0, none⟩ = some (.int .i64 k) ∧ W.cell? ⟨w.heap.size, 1, none⟩ = some (.int .i64 i) ∧ W.cell? ⟨w.heap.size, 2, none⟩ = some (.int .u32 g) ∧ w.heap.size < W.heap.size) := fun W hW => LS.ob_cells (hB.below hW)
  have hnz : (n : Int) ≤ 1000 := by omega
  clear h hB
  go_enter Tryz.func134, Tryz.ntmps134
  go_wp2
  generalize w.alloc (.cells #[.int .i64 k, .int .i64 i, .int .u32 g] 25) = w1 at *
  go_loopw [8] (fun v wr => ∃ j : Nat, j ≤ n ∧ v = .int .i64 j ∧ Hid (Below w1.heap.size w1 wr) ∧ Hid ((⟨k, i, g⟩ : Ro) ∉ l.take j)) (fun v _ => n - (intOf v).toNat)
  case atStart => exact ⟨0, Nat.zero_le _, rfl, Below.refl _ _, by simp [Hid]⟩
  case round =>
    obtain ⟨j, hj, rfl, HW, HN⟩ := hrel
    by_cases hlt : j < n
    · obtain ⟨a0, a1, a2, a3⟩ := FC.out wr HW.out
      have hjm : j < l.length := by omega
      obtain ⟨q, off, rfl, hq, t0, t1, t2⟩ := ((H.out.below HB.out).below HW.out).cell hjm
      obtain ⟨x, hx⟩ : ∃ x, l[j] = x := ⟨_, rfl⟩
      have hx2 : l[j]? = some x := by rw [List.getElem?_eq_getElem hjm, hx]
      rw [hx] at t0 t1 t2
      have NX : Hid (x ≠ ⟨k, i, g⟩ → (⟨k, i, g⟩ : Ro) ∉ l.take (j + 1)) := fun hne => by
        rw [List.take_add_one, hx2]
        simp only [Option.toList_some, List.mem_append, List.mem_singleton, not_or]
        exact ⟨HN.out, fun e => hne e.symm⟩
      have HM := Lib.hid (List.mem_of_getElem? hx2)
      clear hx hjm hx2
      obtain ⟨k', i', g'⟩ := x
      simp only at t0 t1 t2
      by_cases c0 : k = k'
      · subst c0
        by_cases c1 : i = i'
        · subst c1
          by_cases c2 : g = g'
          · subst c2
            go_wp2
            go_quiet (fail)
            go_wp2
            go_ret
            exact ⟨j, rfl, .inr ⟨by omega, HM.out⟩, by omega, HB.out.trans ((bel_drewN HW.out _).mono HB.out.size)⟩
          · have d2 : (g == g') = false := beq_eq_false_iff_ne.2 c2
            have N2 := Lib.hid (NX.out (by simp; omega))
            clear c2 NX
            go_wp2
            go_quiet (fail)
            go_wp2
            go_roundw
            case rel => exact ⟨j + 1, by omega, by go_num, bel_drewN HW.out _, N2.out⟩
            case measure => simp [intOf]; omega
        · have d2 : (i == i') = false := beq_eq_false_iff_ne.2 c1
          have N2 := Lib.hid (NX.out (by simp; omega))
          clear c1 NX
          go_wp2
          go_quiet (fail)
          go_wp2
          go_roundw
          case rel => exact ⟨j + 1, by omega, by go_num, bel_drewN HW.out _, N2.out⟩
          case measure => simp [intOf]; omega
      · have d2 : (k == k') = false := beq_eq_false_iff_ne.2 c0
        have N2 := Lib.hid (NX.out (by simp; omega))
        clear c0 NX
        go_wp2
        go_quiet (fail)
        go_wp2
        go_roundw
        case rel => exact ⟨j + 1, by omega, by go_num, bel_drewN HW.out _, N2.out⟩
        case measure => simp [intOf]; omega
    · obtain rfl : j = n := by omega
      go_wp2
      go_ret
      refine ⟨-1, rfl, .inl ⟨rfl, ?_⟩, by omega, HB.out.trans (HW.out.mono HB.out.size)⟩
      have := HN.out
      rw [List.take_of_length_le (by omega)] at this
      exact this
set_option maxHeartbeats 1000000 in
theorem ocontains_ok (p : Option Addr) (n c : Nat) (l : List Ro) (k i g : Int) (r : Bool) (w : World) (hl : l.length = n) (hn : n ≤ 1000) (h : RdO w (.slice p n c) l) (hr : r = true ↔ (⟨k, i, g⟩ : Ro) ∈ l) :
    Calls Tryz.prog 94 #[.slice p n c, .agg #[.int .i64 k, .int .i64 i, .int .u32 g]] w fun e w' => e = .returned (.bool r) ∧ Below w.heap.size w w' := by
  have IX := Lib.hid (oindex_ok p n c l k i g _ hl hn (h.below (bel_new w (.cells #[.int .i64 k, .int .i64 i, .int .u32 g] 25))))
  have HS := Lib.hid hr
  clear h hr
  go_enter Tryz.func94, Tryz.ntmps94
  go_wp2_with fail
  refine IX.out.mono ?_
  rintro e w2 ⟨q, rfl, hi, _, hb⟩
  have HB := Lib.hid (bel2 (bel_new _ _) hb)
  clear hb
  rcases hi with ⟨rfl, h2⟩ | ⟨h1, h2⟩
  · obtain rfl : r = false := by cases r with | false => rfl | true => exact absurd (HS.out.1 rfl) h2
    clear h2
    go_wp2
    go_ret
    exact ⟨rfl, HB.out⟩
  · obtain rfl : r = true := HS.out.2 h2
    clear h2
    go_wp2
    go_ret
    exact ⟨rfl, HB.out⟩
end Go.Proofs.YtpinmiplefidpaaGreatDoor
