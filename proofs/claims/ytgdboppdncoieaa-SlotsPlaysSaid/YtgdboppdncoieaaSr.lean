/- The contracts of the document's small functions on tables: valid, Check, Give, Gen, count, Same; of estrayref01's Check and Next. -/
import Derived.Test.YtgdboppdncoieaaSx
namespace Go.Proofs.Ytgdboppdncoieaa
open Go.RowKit

theorem rone_ok (g : Int) (w : World) (h1 : 1 ≤ g) : Calls Try.prog 31 #[.int .u32 g] w fun e w' => e = .returned (.int .i64 0) ∧ w = w' := by
  have hz : (g == 0) = false := by rw [beq_eq_false_iff_ne]; omega
  go_enter Try.func31, Try.ntmps31
  go_wp2
  go_ret
  exact ⟨rfl, rfl⟩
theorem rone_zero (w : World) : Calls Try.prog 31 #[.int .u32 0] w fun e w' => e = .returned (.int .i64 2) ∧ w = w' := by
  go_enter Try.func31, Try.ntmps31
  go_wp2
  go_ret
  exact ⟨rfl, rfl⟩
theorem rnext_last (w : World) : Calls Try.prog 37 #[.int .u32 4294967295] w fun e w' => e = .returned (.tuple #[.int .u32 0, .bool false, .int .i64 0]) ∧ w = w' := by
  go_enter Try.func37, Try.ntmps37
  go_wp2
  go_ret3
  exact ⟨rfl, rfl⟩
theorem rnext_yes (g : Int) (w : World) (h1 : 1 ≤ g) (h2 : g < 4294967295) : Calls Try.prog 37 #[.int .u32 g] w fun e w' => e = .returned (.tuple #[.int .u32 (g + 1), .bool true, .int .i64 0]) ∧ w = w' := by
  have hz : (g == 0) = false := by rw [beq_eq_false_iff_ne]; omega
  have hm : (g == 4294967295) = false := by rw [beq_eq_false_iff_ne]; omega
  go_enter Try.func37, Try.ntmps37
  go_wp2
  go_ret3
  exact ⟨rfl, rfl⟩

theorem rvalid_nil (w : World) : Calls Try.prog 34 #[.pointer none] w fun e w' => e = .returned (.bool false) ∧ w = w' := by
  go_enter Try.func34, Try.ntmps34
  go_wp2
  go_ret
  exact ⟨rfl, rfl⟩
theorem rvalid_yes (b d : Nat) (T : Tb) (w : World) (h : RefW w b d T) : Calls Try.prog 34 #[.pointer (some ⟨b, 0, none⟩)] w fun e w' => e = .returned (.bool true) ∧ w = w' := by
  obtain ⟨cap, hc, _, _⟩ := h.c0
  have hn : 0 < T.n := h.ok.lo
  clear h
  go_enter Try.func34, Try.ntmps34
  go_wp2
  go_ret
  exact ⟨rfl, rfl⟩

/-! ### Check -/
theorem rchk_nil (i g : Int) (w : World) : Calls Try.prog 17 #[.pointer none, .agg #[.int .i64 i, .int .u32 g]] w fun e w' => e = .returned (.int .i64 1) ∧ Below w.heap.size w w' := by
  go_enter Try.func17, Try.ntmps17
  go_wp2_with (go_at_call 34; refine (rvalid_nil _).mono ?_; rintro e w' ⟨rfl, rfl⟩)
  go_ret
  exact ⟨rfl, (Below.refl _ w).alloc (Nat.le_refl _) _⟩
set_option maxHeartbeats 1000000 in
theorem rchk_any (b d : Nat) (T : Tb) (i g : Int) (w : World) (h : RefW w b d T) : Calls Try.prog 17 #[.pointer (some ⟨b, 0, none⟩), .agg #[.int .i64 i, .int .u32 g]] w fun e w' => e = .returned (.int .i64 (T.chk i g)) ∧ Below w.heap.size w w' := by
  have HW := Lib.hid (h.below ((Below.refl _ w).alloc (Nat.le_refl _) (.cells #[.int .i64 i, .int .u32 g] 33)))
  obtain ⟨cap, hc, hcap, hcm⟩ := h.c0
  have hn := h.ok.hi
  have hbt := h.ct
  have hdt := h.dt
  rcases chk_cases T i g with ⟨h1, h2⟩ | ⟨k, rfl, h1, h3, h2⟩ | ⟨k, rfl, h1, h3, h4, h2⟩
  · rw [h2]
    clear h h2
    by_cases h0 : i < 0
    all_goals
      first | have h5 : (T.n : Int) ≤ i := by omega | skip
      clear h1
      go_enter Try.func17, Try.ntmps17
      go_wp2_with (go_at_call 34; refine (rvalid_yes _ _ _ _ HW.out).mono ?_; rintro e w' ⟨rfl, rfl⟩)
      go_quiet (fail)
      go_wp2
      go_ret
      exact ⟨rfl, bel_drewN ((Below.refl _ w).alloc (Nat.le_refl _) _) _⟩
  · rw [h2]
    have hcs := h.cs h1
    have hcg := h.cg h1
    clear h h2
    generalize T.s k = x at *
    generalize T.g k = y at *
    by_cases hx : x = 1
    · have hy := h3 hx
      subst hx
      have hy2 : ((y : Int) != g) = true := by simpa using hy
      clear h3 hy
      go_enter Try.func17, Try.ntmps17
      go_wp2_with (go_at_call 34; refine (rvalid_yes _ _ _ _ HW.out).mono ?_; rintro e w' ⟨rfl, rfl⟩)
      go_quiet (fail)
      go_wp2
      go_quiet (fail)
      go_wp2
      go_ret
      exact ⟨rfl, bel_drewN (bel_drewN ((Below.refl _ w).alloc (Nat.le_refl _) _) _) _⟩
    · have hx2 : ((x : Int) != 1) = true := by simp; omega
      clear h3 hx
      go_enter Try.func17, Try.ntmps17
      go_wp2_with (go_at_call 34; refine (rvalid_yes _ _ _ _ HW.out).mono ?_; rintro e w' ⟨rfl, rfl⟩)
      go_quiet (fail)
      go_wp2
      go_quiet (fail)
      go_wp2
      go_ret
      exact ⟨rfl, bel_drewN (bel_drewN ((Below.refl _ w).alloc (Nat.le_refl _) _) _) _⟩
  · rw [h2]
    have hcs := h.cs h1
    have hcg := h.cg h1
    rw [h3] at hcs
    rw [h4] at hcg
    have hy2 : (g != g) = false := by simp
    clear h h2 h3 h4
    go_enter Try.func17, Try.ntmps17
    go_wp2_with (go_at_call 34; refine (rvalid_yes _ _ _ _ HW.out).mono ?_; rintro e w' ⟨rfl, rfl⟩)
    go_quiet (fail)
    go_wp2
    go_quiet (fail)
    go_wp2
    go_ret
    exact ⟨rfl, bel_drewN (bel_drewN ((Below.refl _ w).alloc (Nat.le_refl _) _) _) _⟩

/-! ### Gen -/
theorem rgen_nil (i : Int) (w : World) : Calls Try.prog 38 #[.pointer none, .int .i64 i] w fun e w' => e = .returned (.tuple #[.int .u32 0, .int .i64 1]) ∧ w = w' := by
  go_enter Try.func38, Try.ntmps38
  go_wp2_with (go_at_call 34; refine (rvalid_nil _).mono ?_; rintro e w' ⟨rfl, rfl⟩)
  go_ret2
  exact ⟨rfl, rfl⟩
theorem rgen_any (b d : Nat) (T : Tb) (i : Int) (w : World) (h : RefW w b d T) : Calls Try.prog 38 #[.pointer (some ⟨b, 0, none⟩), .int .i64 i] w fun e w' => e = .returned (.tuple #[.int .u32 (T.gen i), .int .i64 (T.genE i)]) ∧ w = w' := by
  have H := Lib.hid h
  obtain ⟨cap, hc, hcap, hcm⟩ := h.c0
  have hn := h.ok.hi
  unfold Tb.gen Tb.genE
  by_cases hi : i < 0 ∨ (T.n : Int) ≤ i
  · rw [if_pos hi, if_pos hi]
    by_cases h0 : i < 0
    all_goals
      first | have h5 : (T.n : Int) ≤ i := by omega | skip
      clear h hi
      go_enter Try.func38, Try.ntmps38
      go_wp2_with (go_at_call 34; refine (rvalid_yes _ _ _ _ H.out).mono ?_; rintro e w' ⟨rfl, rfl⟩)
      go_ret2
      exact ⟨rfl, rfl⟩
  · obtain ⟨k, rfl⟩ : ∃ k : Nat, i = k := ⟨i.toNat, by omega⟩
    rw [if_neg hi, if_neg hi, Int.toNat_natCast]
    have hk : k < T.n := by omega
    have hcg := h.cg hk
    generalize T.g k = y at *
    clear h hi
    go_enter Try.func38, Try.ntmps38
    go_wp2_with (go_at_call 34; refine (rvalid_yes _ _ _ _ H.out).mono ?_; rintro e w' ⟨rfl, rfl⟩)
    go_ret2
    exact ⟨rfl, rfl⟩

/-! ### count -/
theorem rcount_nil (v : Int) (w : World) : Calls Try.prog 48 #[.pointer none, .int .i64 v] w fun e w' => e = .returned (.int .i64 0) ∧ w = w' := by
  go_enter Try.func48, Try.ntmps48
  go_wp2
  go_loop [5, 6] (fun c i => c = .int .i64 0 ∧ i = .int .i64 0) (fun _ _ => 0)
  case atStart => exact ⟨rfl, rfl⟩
  case round =>
    obtain ⟨rfl, rfl⟩ := hrel
    go_wp2_with (go_at_call 34; refine (rvalid_nil _).mono ?_; rintro e w' ⟨rfl, rfl⟩)
    go_ret
    exact ⟨rfl, rfl⟩
set_option maxHeartbeats 1000000 in
theorem rcount_ok (b d : Nat) (T : Tb) (v : Nat) (w : World) (h : RefW w b d T) : Calls Try.prog 48 #[.pointer (some ⟨b, 0, none⟩), .int .i64 v] w fun e w' => e = .returned (.int .i64 (sel T.s v T.n).length) ∧ w = w' := by
  have H := Lib.hid h
  obtain ⟨cap, hc, hcap, hcm⟩ := h.c0
  have hn := h.ok.hi
  clear h
  go_enter Try.func48, Try.ntmps48
  go_wp2
  go_loop [5, 6] (fun c i => ∃ k : Nat, k ≤ T.n ∧ i = .int .i64 k ∧ c = .int .i64 (sel T.s v k).length) (fun _ i => T.n - (intOf i).toNat)
  case atStart => exact ⟨0, Nat.zero_le _, rfl, rfl⟩
  case round =>
    obtain ⟨k, hk, rfl, rfl⟩ := hrel
    by_cases hlt : k < T.n
    · have hcs := H.out.cs hlt
      have hsn := sel_snoc T.s v k
      have hsl := sel_len T.s v k
      obtain ⟨x, ex⟩ : ∃ x, T.s k = x := ⟨_, rfl⟩
      obtain ⟨c, ec⟩ : ∃ c, (sel T.s v k).length = c := ⟨_, rfl⟩
      rw [ex] at hcs hsn
      rw [ec] at hsl
      rw [ec]
      by_cases hx : x = v
      · have hlen : (sel T.s v (k + 1)).length = c + 1 := by rw [hsn, if_pos hx, List.length_append, ec]; rfl
        have hxv : ((x : Int) == (v : Int)) = true := by rw [hx]; simp
        have HL := Lib.hid hlen
        clear hlen hsn ex ec hx
        go_wp2_with (go_at_call 34; refine (rvalid_yes _ _ _ _ H.out).mono ?_; rintro e w' ⟨rfl, rfl⟩)
        go_round
        case rel => exact ⟨k + 1, by omega, by go_num, by rw [HL.out]; go_num⟩
        case measure => simp [intOf]; omega
      · have hlen : (sel T.s v (k + 1)).length = c := by rw [hsn, if_neg hx, List.append_nil, ec]
        have hxv : ((x : Int) == (v : Int)) = false := beq_eq_false_iff_ne.2 (by omega)
        have HL := Lib.hid hlen
        clear hlen hsn ex ec hx
        go_wp2_with (go_at_call 34; refine (rvalid_yes _ _ _ _ H.out).mono ?_; rintro e w' ⟨rfl, rfl⟩)
        go_round
        case rel => exact ⟨k + 1, by omega, by go_num, by rw [HL.out]⟩
        case measure => simp [intOf]; omega
    · obtain rfl : k = T.n := by omega
      go_wp2_with (go_at_call 34; refine (rvalid_yes _ _ _ _ H.out).mono ?_; rintro e w' ⟨rfl, rfl⟩)
      go_ret
      exact ⟨rfl, rfl⟩

/-! ### Same -/
set_option maxHeartbeats 1000000 in
theorem same_ok (u v : Value) (l : List (Nat × Nat)) (w : World) (hl : l.length ≤ 256) (h1 : Sr w u l) (h2 : Sr w v l) :
    Calls Try.prog 42 #[u, v] w fun e w' => e = .returned (.bool true) ∧ Below w.heap.size w w' := by
  obtain ⟨a, c, rfl⟩ := h1.len
  obtain ⟨a2, c2, rfl⟩ := h2.len
  have H1 := Lib.hid h1
  have H2 := Lib.hid h2
  have hd : ((l.length : Int) != (l.length : Int)) = false := by simp
  clear h1 h2
  go_enter Try.func42, Try.ntmps42
  go_wp2
  clear hd
  go_loopw [5] (fun i wr => ∃ k q : Nat, k ≤ l.length ∧ i = .int .i64 k ∧ wr = w.drewN q) (fun i _ => l.length - (intOf i).toNat)
  case atStart => exact ⟨0, 0, Nat.zero_le _, rfl, rfl⟩
  case round =>
    obtain ⟨k, q, hk, rfl, rfl⟩ := hrel
    by_cases hlt : k < l.length
    · obtain ⟨r, hr⟩ : ∃ r, l[k]? = some r := ⟨_, List.getElem?_eq_getElem hlt⟩
      obtain ⟨g1, rfl, hg1, hc0, hc1⟩ := H1.out.at hr
      obtain ⟨g2, rfl, hg2, hd0, hd1⟩ := H2.out.at hr
      obtain ⟨x, y⟩ := r
      simp only [] at hc0 hc1 hd0 hd1
      have hxx : ((x : Int) == (x : Int)) = true := by simp
      have hyy : ((y : Int) == (y : Int)) = true := by simp
      clear hr
      go_wp2
      go_quiet (fail)
      go_wp2
      go_roundw
      case rel => exact ⟨k + 1, _, by omega, by go_num, rfl⟩
      case measure => simp [intOf]; omega
    · obtain rfl : k = l.length := by omega
      go_wp2
      go_ret
      exact ⟨rfl, bel_drewN (Below.refl _ _) _⟩
end Go.Proofs.Ytgdboppdncoieaa
