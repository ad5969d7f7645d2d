/- The contracts of the program's isNone and check, and of the document's Possible and Wrong. -/
import Derived.Test.YtfnhkapbfgofkaaNk
namespace Go.Proofs.Ytfnhkapbfgofkaa
open Go.RowKit

def noneB (r : Rf) : Bool := decide (r = (0, 0))
theorem noneB_iff {r : Rf} : noneB r = true ↔ r = (0, 0) := decide_eq_true_iff
theorem noneB_no {r : Rf} (h : r ≠ (0, 0)) : noneB r = false := decide_eq_false h
theorem isNone_ok (r : Rf) (w : World) : Calls Try.prog 78 #[rfv r] w fun e w' => e = .returned (.bool (noneB r)) ∧ Below w.heap.size w w' := by
  obtain ⟨s, g⟩ := r
  show Calls _ _ #[.agg #[.int .i64 s, .int .u32 g]] _ _
  go_enter Try.func78, Try.ntmps78
  go_wp2
  all_goals
    go_ret
    refine ⟨?_, (Below.refl _ _).alloc (Nat.le_refl _) _⟩
    have hn : ∀ b : Bool, noneB (s, g) = b → Ending.returned (.bool b) = .returned (.bool (noneB (s, g))) := fun b e => by rw [e]
    refine hn _ ?_
    simp [noneB, *]

theorem rfok_iff (s g : Int) (hg : 0 ≤ g ∧ g ≤ 4294967295) : RfOk (s, g) ↔ (s = 0 ∧ g = 0) ∨ (0 ≤ s ∧ s < 256 ∧ 0 < g) := by
  unfold RfOk
  constructor
  · rintro (h | h)
    · exact .inl ⟨congrArg Prod.fst h, congrArg Prod.snd h⟩
    · exact .inr ⟨h.1, h.2.1, h.2.2.1⟩
  · rintro (⟨rfl, rfl⟩ | h)
    · exact .inl rfl
    · exact .inr ⟨h.1, h.2.1, h.2.2, hg.2⟩

theorem rcheck_ok (r : Rf) (hr : Rr r) (h : RfOk r) (w : World) : Calls Try.prog 71 #[rfv r] w fun e w' => e = .returned (.int .i64 0) ∧ Below w.heap.size w w' := by
  have HN := Lib.hid (isNone_ok r)
  obtain ⟨s, g⟩ := r
  rw [rfok_iff s g hr.2.2] at h
  have hg := hr.2.2
  clear hr
  simp only at hg
  by_cases h0 : (s, g) = ((0, 0) : Rf)
  · have e := noneB_iff.2 h0
    rw [e] at HN
    clear h0 e h
    show Calls _ _ #[.agg #[.int .i64 s, .int .u32 g]] _ _
    go_enter Try.func71, Try.ntmps71
    go_wp2_with fail
    refine (HN.out _).mono ?_
    rintro e w1 ⟨rfl, hb⟩
    go_wp2
    go_ret
    exact ⟨rfl, bel2 ((Below.refl _ _).alloc (Nat.le_refl _) _) hb⟩
  · have e := noneB_no h0
    rw [e] at HN
    have h1 : 0 ≤ s ∧ s < 256 ∧ 0 < g := h.resolve_left fun h => h0 (Prod.ext h.1 h.2)
    have HCK := Lib.hid (fun W : World => check_ok g W (by omega) (by omega))
    obtain ⟨h1, h2, h3⟩ := h1
    clear h0 e h h3
    show Calls _ _ #[.agg #[.int .i64 s, .int .u32 g]] _ _
    go_enter Try.func71, Try.ntmps71
    go_wp2_with fail
    refine (HN.out _).mono ?_
    rintro e w1 ⟨rfl, hb⟩
    have kc := bcell hb
    have c0 : w1.cell? ⟨w.heap.size, 0, none⟩ = some (.int .i64 s) := by rw [kc.1 _ _ (by simp)]; go_simp
    have c1 : w1.cell? ⟨w.heap.size, 1, none⟩ = some (.int .u32 g) := by rw [kc.1 _ _ (by simp)]; go_simp
    go_wp2_with fail
    refine (HCK.out _).mono ?_
    rintro e w2 ⟨rfl, rfl⟩
    go_wp2
    go_ret
    exact ⟨rfl, bel2 ((Below.refl _ _).alloc (Nat.le_refl _) _) hb⟩
theorem rcheck_bad (r : Rf) (hr : Rr r) (h : ¬ RfOk r) (w : World) : Calls Try.prog 71 #[rfv r] w fun e w' => e = .returned (.int .i64 2) ∧ Below w.heap.size w w' := by
  have HN := Lib.hid (isNone_ok r)
  obtain ⟨s, g⟩ := r
  rw [rfok_iff s g hr.2.2] at h
  have hg := hr.2.2
  clear hr
  simp only at hg
  have h0 : ¬ (s, g) = ((0, 0) : Rf) := fun e => h (.inl ⟨congrArg Prod.fst e, congrArg Prod.snd e⟩)
  have e := noneB_no h0
  rw [e] at HN
  have h1 : s < 0 ∨ 256 ≤ s ∨ (0 ≤ s ∧ s < 256 ∧ g = 0) := by
    have : ¬ (0 ≤ s ∧ s < 256 ∧ 0 < g) := fun e => h (.inr e)
    omega
  clear h0 e h
  show Calls _ _ #[.agg #[.int .i64 s, .int .u32 g]] _ _
  rcases h1 with h1 | h1 | ⟨h1, h2, rfl⟩
  · go_enter Try.func71, Try.ntmps71
    go_wp2_with fail
    refine (HN.out _).mono ?_
    rintro e w1 ⟨rfl, hb⟩
    have kc := bcell hb
    have c0 : w1.cell? ⟨w.heap.size, 0, none⟩ = some (.int .i64 s) := by rw [kc.1 _ _ (by simp)]; go_simp
    go_wp2
    go_ret
    exact ⟨rfl, bel2 ((Below.refl _ _).alloc (Nat.le_refl _) _) hb⟩
  · go_enter Try.func71, Try.ntmps71
    go_wp2_with fail
    refine (HN.out _).mono ?_
    rintro e w1 ⟨rfl, hb⟩
    have kc := bcell hb
    have c0 : w1.cell? ⟨w.heap.size, 0, none⟩ = some (.int .i64 s) := by rw [kc.1 _ _ (by simp)]; go_simp
    go_wp2
    go_ret
    exact ⟨rfl, bel2 ((Below.refl _ _).alloc (Nat.le_refl _) _) hb⟩
  · go_enter Try.func71, Try.ntmps71
    go_wp2_with fail
    refine (HN.out _).mono ?_
    rintro e w1 ⟨rfl, hb⟩
    have kc := bcell hb
    have c0 : w1.cell? ⟨w.heap.size, 0, none⟩ = some (.int .i64 s) := by rw [kc.1 _ _ (by simp)]; go_simp
    have c1 : w1.cell? ⟨w.heap.size, 1, none⟩ = some (.int .u32 0) := by rw [kc.1 _ _ (by simp)]; go_simp
    go_wp2_with fail
    refine (check_zero _).mono ?_
    rintro e w2 ⟨rfl, rfl⟩
    go_wp2
    go_ret
    exact ⟨rfl, bel2 ((Below.refl _ _).alloc (Nat.le_refl _) _) hb⟩

/-! ### the document's -/
def posB (s g : Int) : Bool := decide (0 ≤ s ∧ s < 256 ∧ 0 < g)
theorem possible_ok (s g : Int) (hg : 0 ≤ g ∧ g ≤ 4294967295) (w : World) : Calls Try.prog 79 #[.agg #[.int .i64 s, .int .u32 g]] w fun e w' => e = .returned (.bool (posB s g)) ∧ Below w.heap.size w w' := by
  by_cases h1 : 0 ≤ s
  · by_cases h2 : s < 256
    · by_cases h3 : 0 < g
      · have HK := Lib.hid (show posB s g = true from decide_eq_true ⟨h1, h2, h3⟩)
        go_enter Try.func79, Try.ntmps79
        go_wp2
        go_ret
        exact ⟨by rw [HK.out]; rfl, (Below.refl _ _).alloc (Nat.le_refl _) _⟩
      · have HK := Lib.hid (show posB s g = false from decide_eq_false (by omega))
        obtain rfl : g = 0 := by omega
        go_enter Try.func79, Try.ntmps79
        go_wp2
        go_ret
        exact ⟨by rw [HK.out]; rfl, (Below.refl _ _).alloc (Nat.le_refl _) _⟩
    · have HK := Lib.hid (show posB s g = false from decide_eq_false (by omega))
      go_enter Try.func79, Try.ntmps79
      go_wp2
      go_ret
      exact ⟨by rw [HK.out]; rfl, (Below.refl _ _).alloc (Nat.le_refl _) _⟩
  · have HK := Lib.hid (show posB s g = false from decide_eq_false (by omega))
    go_enter Try.func79, Try.ntmps79
    go_wp2
    go_ret
    exact ⟨by rw [HK.out]; rfl, (Below.refl _ _).alloc (Nat.le_refl _) _⟩
open Classical in
noncomputable def wrongB (r : Rf) : Bool := if RfOk r then false else true
theorem wrong_no {r : Rf} (h : RfOk r) : wrongB r = false := by unfold wrongB; rw [if_pos h]
theorem wrong_yes {r : Rf} (h : ¬ RfOk r) : wrongB r = true := by unfold wrongB; rw [if_neg h]
theorem wrong_ok (r : Rf) (hr : Rr r) (w : World) : Calls Try.prog 72 #[rfv r] w fun e w' => e = .returned (.bool (wrongB r)) ∧ Below w.heap.size w w' := by
  obtain ⟨s, g⟩ := r
  have HP := Lib.hid (possible_ok s g hr.2.2)
  have hiff := rfok_iff s g hr.2.2
  have hg : 0 ≤ g := hr.2.2.1
  clear hr
  by_cases h0 : s = 0 ∧ g = 0
  · obtain ⟨rfl, rfl⟩ := h0
    have HK := Lib.hid (wrong_no (hiff.2 (.inl ⟨rfl, rfl⟩)))
    show Calls _ _ #[.agg #[.int .i64 0, .int .u32 0]] _ _
    clear hiff
    go_enter Try.func72, Try.ntmps72
    go_wp2
    go_ret
    exact ⟨by rw [HK.out]; rfl, (Below.refl _ _).alloc (Nat.le_refl _) _⟩
  · have HK : Hid (wrongB (s, g) = !posB s g) := by
      unfold Hid posB
      by_cases h : 0 ≤ s ∧ s < 256 ∧ 0 < g
      · rw [decide_eq_true h, wrong_no (hiff.2 (.inr h))]; rfl
      · rw [decide_eq_false h, wrong_yes (fun e => (hiff.1 e).elim h0 h)]; rfl
    show Calls _ _ #[.agg #[.int .i64 s, .int .u32 g]] _ _
    have h1 : s ≠ 0 ∨ (s = 0 ∧ g ≠ 0) := by omega
    clear hiff h0
    generalize posB s g = b at HP HK
    rcases h1 with h1 | ⟨rfl, h1⟩
    · go_enter Try.func72, Try.ntmps72
      go_wp2_with fail
      refine (HP.out _).mono ?_
      rintro e w1 ⟨rfl, hb⟩
      go_wp2
      go_ret
      exact ⟨by rw [HK.out]; rfl, bel2 ((Below.refl _ _).alloc (Nat.le_refl _) _) hb⟩
    · go_enter Try.func72, Try.ntmps72
      go_wp2_with fail
      refine (HP.out _).mono ?_
      rintro e w1 ⟨rfl, hb⟩
      go_wp2
      go_ret
      exact ⟨by rw [HK.out]; rfl, bel2 ((Below.refl _ _).alloc (Nat.le_refl _) _) hb⟩
end Go.Proofs.Ytfnhkapbfgofkaa
