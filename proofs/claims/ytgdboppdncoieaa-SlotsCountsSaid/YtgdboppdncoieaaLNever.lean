/- The walk of the statement SlotsNever: it returns true for all sizes, generations and turns. -/
import Derived.Test.YtgdboppdncoieaaSx
namespace Go.Proofs.Ytgdboppdncoieaa
open Go.RowKit

theorem Sr.cells {w : World} {g n c : Nat} {l : List (Nat × Nat)} (h : Sr w (.slice (some ⟨g, 0, none⟩) n c) l) {j : Nat} {r : Nat × Nat} (hj : l[j]? = some r) : g < w.heap.size ∧ w.cell? ⟨g, j * 2, none⟩ = some (.int .i64 r.1) ∧ w.cell? ⟨g, j * 2 + 1, none⟩ = some (.int .u32 r.2) := by
  obtain ⟨g', e, h1, h2, h3⟩ := h.at hj
  injection e with e
  injection e with e
  subst e
  exact ⟨h1, h2, h3⟩
/-- Is r one of the first j of l? -/
def among (l : List (Nat × Nat)) (r : Nat × Nat) (j : Nat) : Bool := (l.take j).any fun x => x == r
theorem among_zero (l : List (Nat × Nat)) (r : Nat × Nat) : among l r 0 = false := rfl
theorem among_yes {l : List (Nat × Nat)} {r : Nat × Nat} {j : Nat} (h : among l r j = true) : among l r (j + 1) = true := by
  unfold among at h ⊢
  rw [List.any_eq_true] at h ⊢
  obtain ⟨x, h1, h2⟩ := h
  exact ⟨x, (List.take_sublist_take_left (Nat.le_succ j)).subset h1, h2⟩
theorem among_succ {l : List (Nat × Nat)} {r x : Nat × Nat} {j : Nat} (h : among l r j = false) (hj : l[j]? = some x) : among l r (j + 1) = (x == r) := by
  unfold among at h ⊢
  obtain ⟨hl, e⟩ := List.getElem?_eq_some_iff.1 hj
  rw [List.take_succ_eq_append_getElem hl, List.any_append, h, e]
  simp
theorem among_all (l : List (Nat × Nat)) (r : Nat × Nat) : among l r l.length = decide (r ∈ l) := by
  unfold among
  rw [List.take_length, Bool.eq_iff_iff, List.any_eq_true, decide_eq_true_iff]
  constructor
  · rintro ⟨x, h1, h2⟩; rw [beq_iff_eq] at h2; exact h2 ▸ h1
  · intro h; exact ⟨r, h, beq_self_eq_true r⟩
theorem chk_now {T : Tb} {r : Nat × Nat} (h : r.1 < T.n) : T.chk (r.1 : Int) (r.2 : Int) = if r ∈ T.now then 0 else 7 := by
  have e1 : ¬ ((r.1 : Int) < 0 ∨ (T.n : Int) ≤ (r.1 : Int)) := by omega
  unfold Tb.chk
  rw [if_neg e1, Int.toNat_natCast]
  by_cases hm : r ∈ T.now
  · obtain ⟨h1, h2, h3⟩ := Tb.mem_now.1 hm
    rw [if_pos hm, if_pos ⟨h2, by rw [h3]⟩]
  · rw [if_neg hm, if_neg]
    rintro ⟨h1, h2⟩
    exact hm (Tb.mem_now.2 ⟨h, h1, by omega⟩)

structure NevSt (w0 w : World) (b : Nat) (v u : Value) (T : Tb) (L : List (Nat × Nat)) : Prop where
  t : TabW w b T
  s1 : Sr w v L
  s2 : Sr w u T.now
  bel : Below w0.heap.size w0 w
theorem NevSt.quiet {w0 w w' : World} {b : Nat} {v u : Value} {T : Tb} {L : List (Nat × Nat)} (h : NevSt w0 w b v u T L) (k : Below w.heap.size w w') : NevSt w0 w' b v u T L :=
  ⟨h.t.below k, h.s1.below k, h.s2.below k, bel2 h.bel k⟩

set_option maxRecDepth 100000 in
set_option maxHeartbeats 8000000 in
theorem never_core (size below : Int) (a : Option Addr) (len cap : Nat) (c : Nat → Bool) (q : Nat → Nat) (w : World) (h0 : 0 ≤ size) (h1 : size ≤ 255) (h2 : 0 ≤ below) (h3 : below ≤ 255) (hl : len ≤ 200) (hu : Turns w a len c q) :
    Calls Try.prog 5 #[.int .u8 size, .int .u8 below, .slice a len cap] w fun e w' => e = .returned (.bool true) ∧ Below w.heap.size w w' := by
  have HM := Lib.hid (made_ok size below a len cap c q w h0 h1 h2 h3 hl hu)
  have HW := Lib.hid (run_was (mk0 size below) c q len)
  have hLl := runL_len (mk0 size below) c q len
  clear h0 h1 h2 h3 hu
  go_enter Try.func5, Try.ntmps5
  go_wp2_with fail
  refine HM.out.mono ?_
  rintro e w1 ⟨b, a1, c1, rfl, hb, ht, hs, hbel⟩
  have HT := Lib.hid ht
  have HS1 := Lib.hid hs
  have HB := Lib.hid hbel
  clear HM hb ht hs hbel
  generalize runT (mk0 size below) c q len = T at *
  generalize runL (mk0 size below) c q len = L at *
  go_wp2_with fail
  refine (taken_s b T _ HT.out).mono ?_
  rintro e w2 ⟨a2, c2, rfl, hs2, hb2⟩
  have ST : Hid (NevSt w w2 b (.slice a1 L.length c1) (.slice a2 T.now.length c2) T L) := ⟨HT.out.below hb2, HS1.out.below hb2, hs2, bel2 HB.out hb2⟩
  have hNl : T.now.length ≤ 256 := by rw [Tb.now_len]; exact T.held_len HT.out.ok
  clear hs2 hb2 HT HS1 HB
  go_wp2
  go_loopw [10] (fun i wr => ∃ k : Nat, k ≤ L.length ∧ i = .int .i64 k ∧ Hid (NevSt w wr b (.slice a1 L.length c1) (.slice a2 T.now.length c2) T L)) (fun i _ => L.length - (intOf i).toNat)
  case atStart => exact ⟨0, Nat.zero_le _, rfl, ST.out⟩
  case round =>
    obtain ⟨k, hk, rfl, HS⟩ := hrel
    by_cases hlt : k < L.length
    · obtain ⟨r, hr⟩ : ∃ r, L[k]? = some r := ⟨_, List.getElem?_eq_getElem hlt⟩
      obtain ⟨g1, rfl, -⟩ := HS.out.s1.at hr
      have HR := Lib.hid hr
      have hWas := HW.out.1 r (List.mem_of_getElem? hr)
      have HWas := Lib.hid hWas
      clear hr hWas ST
      obtain ⟨x, y⟩ := r
      go_wp2
      go_loopw [11] (fun i wq => ∃ j : Nat, j ≤ k ∧ i = .int .i64 j ∧ Hid (NevSt w wq b (.slice (some ⟨g1, 0, none⟩) L.length c1) (.slice a2 T.now.length c2) T L)) (fun i _ => k - (intOf i).toNat)
      case atStart => exact ⟨0, Nat.zero_le _, rfl, HS.out⟩
      case round =>
        obtain ⟨j, hj, rfl, HS2⟩ := hrel
        by_cases hlj : j < k
        · obtain ⟨r2, hr2⟩ : ∃ r2, L[j]? = some r2 := ⟨_, List.getElem?_eq_getElem (by omega)⟩
          obtain ⟨hg, hc0, hc1⟩ := HS2.out.s1.cells HR.out
          obtain ⟨_, hd0, hd1⟩ := HS2.out.s1.cells hr2
          have hne : (x, y) ≠ r2 := by
            intro e
            have h := HW.out.2
            have h1 := (List.getElem?_eq_some_iff.1 HR.out).2
            have h2 := (List.getElem?_eq_some_iff.1 hr2).2
            exact (List.pairwise_iff_getElem.1 h) j k (by omega) hlt hlj (h2.trans (e.symm.trans h1.symm))
          obtain ⟨x2, y2⟩ := r2
          simp only [] at hc0 hc1 hd0 hd1
          clear hr2
          by_cases hx : x = x2
          · subst hx
            have hyy : ((y : Int) == (y2 : Int)) = false := beq_eq_false_iff_ne.2 (fun e => hne (by rw [Int.ofNat_inj.1 e]))
            have hxx : ((x : Int) == (x : Int)) = true := by simp
            clear hne
            go_wp2
            go_quiet (fail)
            go_wp2
            go_roundw
            case rel => exact ⟨j + 1, by omega, by go_num, HS2.out.quiet (bel_drewN (Below.refl _ _) _)⟩
            case measure => simp [intOf]; omega
          · have hxx : ((x : Int) == (x2 : Int)) = false := beq_eq_false_iff_ne.2 (by omega)
            clear hne
            go_wp2
            go_quiet (fail)
            go_wp2
            go_roundw
            case rel => exact ⟨j + 1, by omega, by go_num, HS2.out.quiet (bel_drewN (Below.refl _ _) _)⟩
            case measure => simp [intOf]; omega
        · obtain rfl : j = k := by omega
          obtain ⟨k, ek⟩ : ∃ k, j = k := ⟨_, rfl⟩
          subst ek
          clear HS
          go_wp2
          go_loopw [12, 13] (fun th i wq => ∃ (m : Nat) (bb : Bool), m ≤ T.now.length ∧ i = .int .i64 m ∧ th = .bool bb ∧ Hid (among T.now (x, y) m = bb) ∧ Hid (NevSt w wq b (.slice (some ⟨g1, 0, none⟩) L.length c1) (.slice a2 T.now.length c2) T L)) (fun _ i _ => T.now.length - (intOf i).toNat)
          case atStart => exact ⟨0, false, Nat.zero_le _, rfl, rfl, rfl, HS2.out⟩
          case round =>
            clear HS2
            obtain ⟨m, bb, hm, rfl, rfl, HA, HS3⟩ := hrel
            by_cases hlm : m < T.now.length
            · obtain ⟨r2, hr2⟩ : ∃ r2, T.now[m]? = some r2 := ⟨_, List.getElem?_eq_getElem hlm⟩
              cases bb
              · obtain ⟨g2, rfl, hg2, hd0, hd1⟩ := HS3.out.s2.at hr2
                obtain ⟨hg, hc0, hc1⟩ := HS3.out.s1.cells HR.out
                have hsc := among_succ HA.out hr2
                obtain ⟨x2, y2⟩ := r2
                simp only [] at hc0 hc1 hd0 hd1
                clear hr2
                by_cases hx : x2 = x
                · subst hx
                  have hxx : ((x2 : Int) == (x2 : Int)) = true := by simp
                  by_cases hy : y2 = y
                  · subst hy
                    have hyy : ((y2 : Int) == (y2 : Int)) = true := by simp
                    have HSC := Lib.hid (hsc.trans (beq_self_eq_true _))
                    clear hsc
                    go_wp2
                    go_quiet (fail)
                    go_wp2
                    go_roundw
                    case rel => exact ⟨m + 1, true, by omega, by go_num, rfl, HSC.out, HS3.out.quiet (bel_drewN (Below.refl _ _) _)⟩
                    case measure => simp [intOf]; omega
                  · have hyy : ((y2 : Int) == (y : Int)) = false := beq_eq_false_iff_ne.2 (by omega)
                    have HSC := Lib.hid (hsc.trans (beq_eq_false_iff_ne.2 (fun e => hy (by injection e))))
                    clear hsc hy
                    go_wp2
                    go_quiet (fail)
                    go_wp2
                    go_roundw
                    case rel => exact ⟨m + 1, false, by omega, by go_num, rfl, HSC.out, HS3.out.quiet (bel_drewN (Below.refl _ _) _)⟩
                    case measure => simp [intOf]; omega
                · have hxx : ((x2 : Int) == (x : Int)) = false := beq_eq_false_iff_ne.2 (by omega)
                  have HSC := Lib.hid (hsc.trans (beq_eq_false_iff_ne.2 (fun e => hx (by injection e))))
                  clear hsc hx
                  go_wp2
                  go_quiet (fail)
                  go_wp2
                  go_roundw
                  case rel => exact ⟨m + 1, false, by omega, by go_num, rfl, HSC.out, HS3.out.quiet (bel_drewN (Below.refl _ _) _)⟩
                  case measure => simp [intOf]; omega
              · have HSC := Lib.hid (among_yes HA.out)
                clear hr2
                go_wp2
                go_quiet (fail)
                go_wp2
                go_roundw
                case rel => exact ⟨m + 1, true, by omega, by go_num, rfl, HSC.out, HS3.out.quiet (bel_drewN (Below.refl _ _) _)⟩
                case measure => simp [intOf]; omega
            · obtain rfl : m = T.now.length := by omega
              have hall := among_all T.now (x, y)
              rw [HA.out] at hall
              have hck := chk_now (r := (x, y)) HWas.out.1
              obtain ⟨hg, hc0, hc1⟩ := HS3.out.s1.cells HR.out
              simp only [] at hc0 hc1 hck
              cases bb
              · rw [if_neg (by have := hall.symm; simpa using this)] at hck
                have HCK := Lib.hid hck
                clear hck hall
                go_wp2_with fail
                clear hc0 hc1
                refine (check_s b T x y 7 _ HS3.out.t HCK.out).mono ?_
                rintro e w5 ⟨rfl, hb5⟩
                have HS5 := Lib.hid (HS3.out.quiet hb5)
                clear hb5 HS3
                go_wp2
                go_roundw
                case rel => exact ⟨j + 1, by omega, by go_num, HS5.out⟩
                case measure => simp [intOf]; omega
              · rw [if_pos (by have := hall.symm; simpa using this)] at hck
                have HCK := Lib.hid hck
                clear hck hall
                go_wp2_with fail
                clear hc0 hc1
                refine (check_s b T x y 0 _ HS3.out.t HCK.out).mono ?_
                rintro e w5 ⟨rfl, hb5⟩
                have HS5 := Lib.hid (HS3.out.quiet hb5)
                clear hb5 HS3
                go_wp2
                go_roundw
                case rel => exact ⟨j + 1, by omega, by go_num, HS5.out⟩
                case measure => simp [intOf]; omega
    · obtain rfl : k = L.length := by omega
      go_wp2_with fail
      refine (works_ok _).mono ?_
      rintro e w3 ⟨rfl, hb3⟩
      go_wp2
      go_ret
      exact ⟨rfl, bel2 HS.out.bel hb3⟩

set_option maxRecDepth 100000 in
theorem never_long (size below : Int) (a : Option Addr) (len cap : Nat) (w : World) (hl : 200 < len) :
    Calls Try.prog 5 #[.int .u8 size, .int .u8 below, .slice a len cap] w fun e w' => e = .returned (.bool true) ∧ Below w.heap.size w w' := by
  go_enter Try.func5, Try.ntmps5
  go_wp2_with fail
  refine (works_ok _).mono ?_
  rintro e w3 ⟨rfl, hb3⟩
  go_wp2
  go_ret
  exact ⟨rfl, hb3⟩
theorem never_walk (size below : Int) (a : Option Addr) (len cap : Nat) (c : Nat → Bool) (q : Nat → Nat) (w : World) (h0 : 0 ≤ size) (h1 : size ≤ 255) (h2 : 0 ≤ below) (h3 : below ≤ 255) (hu : Turns w a len c q) :
    Calls Try.prog 5 #[.int .u8 size, .int .u8 below, .slice a len cap] w fun e w' => e = .returned (.bool true) ∧ Below w.heap.size w w' := by
  by_cases hl : len ≤ 200
  · exact never_core size below a len cap c q w h0 h1 h2 h3 hl hu
  · exact never_long size below a len cap w (by omega)
end Go.Proofs.Ytgdboppdncoieaa
