/- The walk of the statement SlotsStale: it returns true for all sizes, generations, turns and references. -/
import Derived.Test.YtgdboppdncoieaaLNever
namespace Go.Proofs.Ytgdboppdncoieaa
open Go.RowKit

/-- Is the slot i in the generation g one of the first j of l? -/
def amongI (l : List (Nat × Nat)) (i g : Int) (j : Nat) : Bool := (l.take j).any fun x => decide ((x.1 : Int) = i) && decide ((x.2 : Int) = g)
theorem amongI_zero (l : List (Nat × Nat)) (i g : Int) : amongI l i g 0 = false := rfl
theorem amongI_yes {l : List (Nat × Nat)} {i g : Int} {j : Nat} (h : amongI l i g j = true) : amongI l i g (j + 1) = true := by
  unfold amongI at h ⊢
  rw [List.any_eq_true] at h ⊢
  obtain ⟨x, h1, h2⟩ := h
  exact ⟨x, (List.take_sublist_take_left (Nat.le_succ j)).subset h1, h2⟩
theorem amongI_succ {l : List (Nat × Nat)} {i g : Int} {x : Nat × Nat} {j : Nat} (h : amongI l i g j = false) (hj : l[j]? = some x) : amongI l i g (j + 1) = (decide ((x.1 : Int) = i) && decide ((x.2 : Int) = g)) := by
  unfold amongI at h ⊢
  obtain ⟨hl, e⟩ := List.getElem?_eq_some_iff.1 hj
  rw [List.take_succ_eq_append_getElem hl, List.any_append, h, e]
  simp
theorem amongI_all (T : Tb) (i g : Int) : amongI T.now i g T.now.length = true ↔ T.chk i g = 0 := by
  unfold amongI
  rw [List.take_length, List.any_eq_true]
  constructor
  · rintro ⟨x, h1, h2⟩
    obtain ⟨m1, m2, m3⟩ := Tb.mem_now.1 h1
    simp only [Bool.and_eq_true, decide_eq_true_iff] at h2
    rw [← h2.1, ← h2.2, ← m3]
    exact Tb.chk_held m1 m2
  · intro h
    obtain ⟨h1, h2, h3, h4⟩ := Tb.chk_zero h
    refine ⟨(i.toNat, T.g i.toNat), Tb.mem_now.2 ⟨by simp only []; omega, h3, rfl⟩, ?_⟩
    simp only [Bool.and_eq_true, decide_eq_true_iff]
    exact ⟨by omega, h4⟩
theorem gave_held {T : Tb} {k : Nat} (hk : k < T.n) (hs : T.s k = 1) : (T.gave k).now.length + 1 = T.now.length := by
  rw [Tb.now_len, Tb.now_len]
  have h : ∀ v, v ≠ 1 → (sel (put T.s k v) 1 T.n).length + 1 = (sel T.s 1 T.n).length := fun v hv => by
    have := sel_put_len (f := T.s) (v := 1) (u := v) hk
    rw [if_pos hs, if_neg hv] at this
    exact this
  unfold Tb.gave
  split
  · exact h 2 (by decide)
  · exact h 0 (by decide)

structure StaSt (w0 w : World) (b R : Nat) (v : Value) (T : Tb) (N : List (Nat × Nat)) (i g : Int) : Prop where
  t : TabW w b T
  s : Sr w v N
  r : Bk w R 33 #[.int .i64 i, .int .u32 g]
  bel : Below w0.heap.size w0 w
  lb : w0.heap.size ≤ b
  rb : R ≠ b
theorem StaSt.quiet {w0 w w' : World} {b R : Nat} {v : Value} {T : Tb} {N : List (Nat × Nat)} {i g : Int} (h : StaSt w0 w b R v T N i g) (k : Below w.heap.size w w') : StaSt w0 w' b R v T N i g :=
  ⟨h.t.below k, h.s.below k, h.r.below k, bel2 h.bel k, h.lb, h.rb⟩
theorem StaSt.step {w0 w w' : World} {b R : Nat} {v : Value} {T U : Tb} {N : List (Nat × Nat)} {i g : Int} (h : StaSt w0 w b R v T N i g) (k : Kept (· = b) w w') (ht : TabW w' b U) : StaSt w0 w' b R v U N i g :=
  ⟨ht, h.s.kept k h.t, h.r.kept k h.rb, kept_bel h.bel k h.lb, h.lb, h.rb⟩

set_option maxRecDepth 100000 in
set_option maxHeartbeats 16000000 in
theorem stale_core (size below : Int) (a : Option Addr) (len cap : Nat) (c : Nat → Bool) (q : Nat → Nat) (i g : Int) (w : World) (h0 : 0 ≤ size) (h1 : size ≤ 255) (h2 : 0 ≤ below) (h3 : below ≤ 255) (hl : len ≤ 200) (hu : Turns w a len c q) :
    Calls Try.prog 8 #[.int .u8 size, .int .u8 below, .slice a len cap, .agg #[.int .i64 i, .int .u32 g]] w fun e w' => e = .returned (.bool true) ∧ Below w.heap.size w w' := by
  have hal : Below w.heap.size w (w.alloc (.cells #[.int .i64 i, .int .u32 g] 33)) := (Below.refl _ w).alloc (Nat.le_refl _) _
  have HM := Lib.hid (made_ok size below a len cap c q (w.alloc (.cells #[.int .i64 i, .int .u32 g] 33)) h0 h1 h2 h3 hl (hu.below hal))
  have HR := Lib.hid (Bk.new w 33 #[.int .i64 i, .int .u32 g])
  have hTn : ((runT (mk0 size below) c q len).n : Int) = 1 + size % 20 := by
    rw [runT_n]
    show (((1 + size % 20).toNat : Nat) : Int) = _
    omega
  have HTN := Lib.hid hTn
  clear hu hTn
  go_enter Try.func8, Try.ntmps8
  go_wp2_with fail
  refine HM.out.mono ?_
  rintro e w1 ⟨b, a1, c1, rfl, hb, ht, _, hbel⟩
  have ST1 : Hid (TabW w1 b (runT (mk0 size below) c q len) ∧ Bk w1 w.heap.size 33 #[.int .i64 i, .int .u32 g] ∧ Below w.heap.size w w1 ∧ w.heap.size < b) := ⟨ht, HR.out.below hbel, bel2 hal hbel, by simp at hb; omega⟩
  clear HM hb ht hbel hal HR
  generalize runT (mk0 size below) c q len = T at *
  obtain ⟨R, hR⟩ : ∃ R, w.heap.size = R := ⟨_, rfl⟩
  rw [hR] at ST1
  have HRE := Lib.hid hR
  rw [hR]
  clear hR
  go_wp2_with fail
  refine (taken_s b T _ ST1.out.1).mono ?_
  rintro e w2 ⟨a2, c2, rfl, hs2, hb2⟩
  have hNl : T.now.length ≤ 256 := by rw [Tb.now_len]; exact T.held_len ST1.out.1.ok
  have ST : Hid (StaSt w w2 b R (.slice a2 T.now.length c2) T T.now i g) := by
    refine ⟨ST1.out.1.below hb2, hs2, ST1.out.2.1.below hb2, ?_, by have := ST1.out.2.2.2; have := HRE.out; omega, by have := ST1.out.2.2.2; omega⟩
    have h := ST1.out.2.2.1
    rw [← HRE.out] at h
    exact bel2 h hb2
  clear hs2 hb2 ST1
  go_wp2
  go_loopw [12, 13] (fun th ix wq => ∃ (m : Nat) (bb : Bool), m ≤ T.now.length ∧ ix = .int .i64 m ∧ th = .bool bb ∧ Hid (amongI T.now i g m = bb) ∧ Hid (StaSt w wq b R (.slice a2 T.now.length c2) T T.now i g)) (fun _ ix _ => T.now.length - (intOf ix).toNat)
  case atStart => exact ⟨0, false, Nat.zero_le _, rfl, rfl, rfl, ST.out⟩
  case round =>
    clear ST
    obtain ⟨m, bb, hm, rfl, rfl, HA, HS3⟩ := hrel
    by_cases hlm : m < T.now.length
    · obtain ⟨r2, hr2⟩ : ∃ r2, T.now[m]? = some r2 := ⟨_, List.getElem?_eq_getElem hlm⟩
      cases bb
      · obtain ⟨g2, rfl, hg2, hd0, hd1⟩ := HS3.out.s.at hr2
        have hc0 : wr.cell? ⟨R, 0, none⟩ = some (.int .i64 i) := HS3.out.r.cell 0
        have hc1 : wr.cell? ⟨R, 1, none⟩ = some (.int .u32 g) := HS3.out.r.cell 1
        have hsc := amongI_succ HA.out hr2
        obtain ⟨x2, y2⟩ := r2
        simp only [] at hd0 hd1 hsc
        clear hr2
        by_cases hx : (x2 : Int) = i
        · subst hx
          have hxx : ((x2 : Int) == (x2 : Int)) = true := by simp
          by_cases hy : (y2 : Int) = g
          · subst hy
            have hyy : ((y2 : Int) == (y2 : Int)) = true := by simp
            have HSC : Hid (amongI T.now (x2 : Int) (y2 : Int) (m + 1) = true) := by unfold Hid; rw [hsc]; simp
            clear hsc
            go_wp2
            go_quiet (fail)
            go_wp2
            go_roundw
            case rel => exact ⟨m + 1, true, by omega, by go_num, rfl, HSC.out, HS3.out.quiet (bel_drewN (Below.refl _ _) _)⟩
            case measure => simp [intOf]; omega
          · have hyy : ((y2 : Int) == g) = false := beq_eq_false_iff_ne.2 hy
            have HSC : Hid (amongI T.now (x2 : Int) g (m + 1) = false) := by unfold Hid; rw [hsc]; simp [hy]
            clear hsc hy
            go_wp2
            go_quiet (fail)
            go_wp2
            go_roundw
            case rel => exact ⟨m + 1, false, by omega, by go_num, rfl, HSC.out, HS3.out.quiet (bel_drewN (Below.refl _ _) _)⟩
            case measure => simp [intOf]; omega
        · have hxx : ((x2 : Int) == i) = false := beq_eq_false_iff_ne.2 hx
          have HSC : Hid (amongI T.now i g (m + 1) = false) := by unfold Hid; rw [hsc]; simp [hx]
          clear hsc hx
          go_wp2
          go_quiet (fail)
          go_wp2
          go_roundw
          case rel => exact ⟨m + 1, false, by omega, by go_num, rfl, HSC.out, HS3.out.quiet (bel_drewN (Below.refl _ _) _)⟩
          case measure => simp [intOf]; omega
      · have HSC := Lib.hid (amongI_yes HA.out)
        clear hr2
        go_wp2
        go_quiet (fail)
        go_wp2
        go_roundw
        case rel => exact ⟨m + 1, true, by omega, by go_num, rfl, HSC.out, HS3.out.quiet (bel_drewN (Below.refl _ _) _)⟩
        case measure => simp [intOf]; omega
    · obtain rfl : m = T.now.length := by omega
      have hall := amongI_all T i g
      rw [HA.out] at hall
      have hc0 : wr.cell? ⟨R, 0, none⟩ = some (.int .i64 i) := HS3.out.r.cell 0
      have hc1 : wr.cell? ⟨R, 1, none⟩ = some (.int .u32 g) := HS3.out.r.cell 1
      rcases chk_cases T i g with ⟨k1, k2⟩ | ⟨k, rfl, k1, k3, k2⟩ | ⟨k, rfl, k1, k3, k4, k2⟩
      · -- there is no such slot
        have hb : bb = false := by cases bb; rfl; exact absurd (hall.1 rfl) (by rw [k2]; decide)
        subst hb
        have HGE := Lib.hid (show T.given i g = T by unfold Tb.given; rw [k2]; rfl)
        have K2 := Lib.hid k2
        by_cases hi0 : i < 0
        all_goals
          first | have hi1 : size % 20 < i := by have := HTN.out; omega | skip
          clear hall k1 k2 HA
          go_wp2_with fail
          clear hc0 hc1
          refine (check_s b T i g 3 _ HS3.out.t K2.out).mono ?_
          rintro e w5 ⟨rfl, hb5⟩
          have HS5 := Lib.hid (HS3.out.quiet hb5)
          have hc0 : w5.cell? ⟨R, 0, none⟩ = some (.int .i64 i) := HS5.out.r.cell 0
          have hc1 : w5.cell? ⟨R, 1, none⟩ = some (.int .u32 g) := HS5.out.r.cell 1
          clear hb5 HS3
          go_wp2_with fail
          clear hc0 hc1
          refine (give_s b T i g 3 _ HS5.out.t K2.out).mono ?_
          rintro e w6 ⟨rfl, ht, hk⟩
          rw [HGE.out] at ht
          have HS6 := Lib.hid (HS5.out.step hk ht)
          clear ht hk HS5
          go_wp2_with fail
          refine (taken_s b T _ HS6.out.t).mono ?_
          rintro e w7 ⟨a7, c7, rfl, hs7, hb7⟩
          have HS7 := Lib.hid (HS6.out.quiet hb7)
          have HN7 := Lib.hid hs7
          have hd : ((T.now.length : Int) != (T.now.length : Int)) = false := by simp
          clear hs7 hb7 HS6
          go_wp2
          clear hd
          go_loopw [16] (fun ix wq => ∃ kk : Nat, kk ≤ T.now.length ∧ ix = .int .i64 kk ∧ Hid (Sr wq (.slice a7 T.now.length c7) T.now) ∧ Hid (StaSt w wq b R (.slice a2 T.now.length c2) T T.now i g)) (fun ix _ => T.now.length - (intOf ix).toNat)
          case atStart => exact ⟨0, Nat.zero_le _, rfl, HN7.out, HS7.out⟩
          case round =>
            clear HN7 HS7
            obtain ⟨k2, hk2, rfl, HN8, HS8⟩ := hrel
            by_cases hlk : k2 < T.now.length
            · obtain ⟨r2, hr2⟩ : ∃ r2, T.now[k2]? = some r2 := ⟨_, List.getElem?_eq_getElem hlk⟩
              obtain ⟨g2, rfl, hg2, hd0, hd1⟩ := HN8.out.at hr2
              obtain ⟨g3, rfl, hg3, he0, he1⟩ := HS8.out.s.at hr2
              obtain ⟨x2, y2⟩ := r2
              simp only [] at hd0 hd1 he0 he1
              have hxx : ((x2 : Int) == (x2 : Int)) = true := by simp
              have hyy : ((y2 : Int) == (y2 : Int)) = true := by simp
              clear hr2
              go_wp2
              go_quiet (fail)
              go_wp2
              go_roundw
              case rel => exact ⟨k2 + 1, by omega, by go_num, HN8.out.below (bel_drewN (Below.refl _ _) _), HS8.out.quiet (bel_drewN (Below.refl _ _) _)⟩
              case measure => simp [intOf]; omega
            · obtain rfl : k2 = T.now.length := by omega
              go_wp2_with fail
              refine (works_ok _).mono ?_
              rintro e w9 ⟨rfl, hb9⟩
              go_wp2
              go_ret
              exact ⟨rfl, bel2 HS8.out.bel hb9⟩
      · -- the slot is not taken, or in another generation
        have hb : bb = false := by cases bb; rfl; exact absurd (hall.1 rfl) (by rw [k2]; decide)
        subst hb
        have HGE := Lib.hid (show T.given k g = T by unfold Tb.given; rw [k2]; rfl)
        have K2 := Lib.hid k2
        have hi0 : (k : Int) ≤ size % 20 := by have := HTN.out; omega
        all_goals
          clear hall k1 k3 k2 HA
          go_wp2_with fail
          clear hc0 hc1
          refine (check_s b T k g 7 _ HS3.out.t K2.out).mono ?_
          rintro e w5 ⟨rfl, hb5⟩
          have HS5 := Lib.hid (HS3.out.quiet hb5)
          have hc0 : w5.cell? ⟨R, 0, none⟩ = some (.int .i64 k) := HS5.out.r.cell 0
          have hc1 : w5.cell? ⟨R, 1, none⟩ = some (.int .u32 g) := HS5.out.r.cell 1
          clear hb5 HS3
          go_wp2_with fail
          clear hc0 hc1
          refine (give_s b T k g 7 _ HS5.out.t K2.out).mono ?_
          rintro e w6 ⟨rfl, ht, hk⟩
          rw [HGE.out] at ht
          have HS6 := Lib.hid (HS5.out.step hk ht)
          clear ht hk HS5
          go_wp2_with fail
          refine (taken_s b T _ HS6.out.t).mono ?_
          rintro e w7 ⟨a7, c7, rfl, hs7, hb7⟩
          have HS7 := Lib.hid (HS6.out.quiet hb7)
          have HN7 := Lib.hid hs7
          have hd : ((T.now.length : Int) != (T.now.length : Int)) = false := by simp
          clear hs7 hb7 HS6
          go_wp2
          clear hd
          go_loopw [16] (fun ix wq => ∃ kk : Nat, kk ≤ T.now.length ∧ ix = .int .i64 kk ∧ Hid (Sr wq (.slice a7 T.now.length c7) T.now) ∧ Hid (StaSt w wq b R (.slice a2 T.now.length c2) T T.now k g)) (fun ix _ => T.now.length - (intOf ix).toNat)
          case atStart => exact ⟨0, Nat.zero_le _, rfl, HN7.out, HS7.out⟩
          case round =>
            clear HN7 HS7
            obtain ⟨k2, hk2, rfl, HN8, HS8⟩ := hrel
            by_cases hlk : k2 < T.now.length
            · obtain ⟨r2, hr2⟩ : ∃ r2, T.now[k2]? = some r2 := ⟨_, List.getElem?_eq_getElem hlk⟩
              obtain ⟨g2, rfl, hg2, hd0, hd1⟩ := HN8.out.at hr2
              obtain ⟨g3, rfl, hg3, he0, he1⟩ := HS8.out.s.at hr2
              obtain ⟨x2, y2⟩ := r2
              simp only [] at hd0 hd1 he0 he1
              have hxx : ((x2 : Int) == (x2 : Int)) = true := by simp
              have hyy : ((y2 : Int) == (y2 : Int)) = true := by simp
              clear hr2
              go_wp2
              go_quiet (fail)
              go_wp2
              go_roundw
              case rel => exact ⟨k2 + 1, by omega, by go_num, HN8.out.below (bel_drewN (Below.refl _ _) _), HS8.out.quiet (bel_drewN (Below.refl _ _) _)⟩
              case measure => simp [intOf]; omega
            · obtain rfl : k2 = T.now.length := by omega
              go_wp2_with fail
              refine (works_ok _).mono ?_
              rintro e w9 ⟨rfl, hb9⟩
              go_wp2
              go_ret
              exact ⟨rfl, bel2 HS8.out.bel hb9⟩
      · -- the slot is taken in this generation
        have hb : bb = true := hall.2 k2
        subst hb
        subst k4
        have HGE := Lib.hid (Tb.given_held k1 k3)
        have HGL := Lib.hid (gave_held k1 k3)
        have K2 := Lib.hid k2
        have hi0 : (k : Int) ≤ size % 20 := by have := HTN.out; omega
        generalize T.g k = y at *
        clear hall k1 k3 k2 HA
        go_wp2_with fail
        clear hc0 hc1
        refine (check_s b T k y 0 _ HS3.out.t K2.out).mono ?_
        rintro e w5 ⟨rfl, hb5⟩
        have HS5 := Lib.hid (HS3.out.quiet hb5)
        have hc0 : w5.cell? ⟨R, 0, none⟩ = some (.int .i64 k) := HS5.out.r.cell 0
        have hc1 : w5.cell? ⟨R, 1, none⟩ = some (.int .u32 y) := HS5.out.r.cell 1
        clear hb5 HS3
        go_wp2_with fail
        clear hc0 hc1
        refine (give_s b T k y 0 _ HS5.out.t K2.out).mono ?_
        rintro e w6 ⟨rfl, ht, hk⟩
        rw [HGE.out] at ht
        have HS6 := Lib.hid (HS5.out.step hk ht)
        clear ht hk HS5
        go_wp2_with fail
        refine (taken_s b _ _ HS6.out.t).mono ?_
        rintro e w7 ⟨a7, c7, rfl, hs7, hb7⟩
        have HS7 := Lib.hid (HS6.out.quiet hb7)
        have hd : (((T.gave k).now.length : Int) == (T.now.length : Int) - 1) = true := by have := HGL.out; simp; omega
        have hln : 1 ≤ T.now.length := by have := HGL.out; omega
        clear hs7 hb7 HS6
        go_wp2_with fail
        refine (works_ok _).mono ?_
        rintro e w9 ⟨rfl, hb9⟩
        go_wp2
        go_ret
        exact ⟨rfl, bel2 HS7.out.bel hb9⟩

set_option maxRecDepth 100000 in
theorem stale_long (size below : Int) (a : Option Addr) (len cap : Nat) (i g : Int) (w : World) (hl : 200 < len) :
    Calls Try.prog 8 #[.int .u8 size, .int .u8 below, .slice a len cap, .agg #[.int .i64 i, .int .u32 g]] w fun e w' => e = .returned (.bool true) ∧ Below w.heap.size w w' := by
  go_enter Try.func8, Try.ntmps8
  go_wp2_with fail
  refine (works_ok _).mono ?_
  rintro e w3 ⟨rfl, hb3⟩
  have HB := Lib.hid (bel2 ((Below.refl _ w).alloc (Nat.le_refl _) _) hb3)
  clear hb3
  go_wp2
  go_ret
  exact ⟨rfl, HB.out⟩
theorem stale_walk (size below : Int) (a : Option Addr) (len cap : Nat) (c : Nat → Bool) (q : Nat → Nat) (i g : Int) (w : World) (h0 : 0 ≤ size) (h1 : size ≤ 255) (h2 : 0 ≤ below) (h3 : below ≤ 255) (hu : Turns w a len c q) (_h4 : -9223372036854775808 ≤ i) (_h5 : i ≤ 9223372036854775807) (_h6 : 0 ≤ g) (_h7 : g ≤ 4294967295) :
    Calls Try.prog 8 #[.int .u8 size, .int .u8 below, .slice a len cap, .agg #[.int .i64 i, .int .u32 g]] w fun e w' => e = .returned (.bool true) ∧ Below w.heap.size w w' := by
  by_cases hl : len ≤ 200
  · exact stale_core size below a len cap c q i g w h0 h1 h2 h3 hl hu
  · exact stale_long size below a len cap i g w (by omega)
end Go.Proofs.Ytgdboppdncoieaa
