/- The document's world: Has, lease, Until, Renew, Tick, Answer, Ledger. -/
import Derived.Test.YtpinmiplefidpaaGreatDoorQa
import Derived.Test.YtpinmiplefidpaaGreatDoorOj
import Derived.Deep.RegionHeld3
import Derived.BigQuiet
import Derived.Deep.QuietTactic
namespace Go.Proofs.YtpinmiplefidpaaGreatDoor
open Go.RowKit

theorem rck_is (k i g : Int) (hr : RgO k i g) (w : World) : Calls Tryz.prog 71 #[.agg #[.int .i64 k, .int .i64 i, .int .u32 g]] w fun e w' => e = .returned (.int .i64 (if Poss k i g then 0 else 2)) ∧ Below w.heap.size w w' := by
  by_cases h : Poss k i g
  · rw [if_pos h]
    obtain ⟨h1, h2, h3, h4, h5⟩ := h
    obtain ⟨_, _, _, _, _, h6⟩ := hr
    obtain ⟨a, rfl⟩ : ∃ a : Nat, k = a := ⟨k.toNat, by omega⟩
    obtain ⟨b, rfl⟩ : ∃ a : Nat, i = a := ⟨i.toNat, by omega⟩
    obtain ⟨c, rfl⟩ : ∃ a : Nat, g = a := ⟨g.toNat, by omega⟩
    exact rochk_ok a b c ⟨by omega, by omega, by omega, by omega, by omega⟩ w
  · rw [if_neg h]
    refine rochk_bad k i g hr ?_ w
    unfold Poss at h
    have := hr.g0
    unfold Bad
    omega
theorem rhas_nil (k i g : Int) (w : World) : Calls Tryz.prog 31 #[.pointer none, .agg #[.int .i64 k, .int .i64 i, .int .u32 g]] w fun e w' => e = .returned (.bool false) ∧ Below w.heap.size w w' := by
  have HB := Lib.hid (bel_new w (.cells #[.int .i64 k, .int .i64 i, .int .u32 g] 25))
  go_enter Tryz.func31, Tryz.ntmps31
  go_wp2_with fail
  refine (rall_nil _).mono ?_
  rintro e w' ⟨rfl, rfl⟩
  go_wp2
  refine wp_loop_rounds 1 ?_
  rw [rounds_succ]
  go_wp2
  go_ret
  exact ⟨rfl, HB.out⟩
set_option maxRecDepth 100000 in
set_option maxHeartbeats 2000000 in
theorem rhas_ok (x : Rx) (W : Wd) (k i g : Int) (r : Bool) (w : World) (h : RW w x W) (hr : r = true ↔ W.Here k i g) :
    Calls Tryz.prog 31 #[ptr x.r, .agg #[.int .i64 k, .int .i64 i, .int .u32 g]] w fun e w' => e = .returned (.bool r) ∧ Below w.heap.size w w' := by
  have hr2 : r = true ↔ (⟨k, i, g⟩ : Ro) ∈ W.all := by rw [hr, h.ok.mem]
  have hB := Bk.new w 25 #[.int .i64 k, .int .i64 i, .int .u32 g]
  have hb := bel_new w (.cells #[.int .i64 k, .int .i64 i, .int .u32 g] 25)
  have hle := h.ok.all_le
  have AL := Lib.hid (rwall_ok x W _ (h.below hb).1)
  have N0 := Lib.hid hB
  have HB := Lib.hid hb
  obtain ⟨L, hL⟩ : ∃ L, W.all = L := ⟨_, rfl⟩
  rw [hL] at hr2 hle AL
  have HR := Lib.hid hr2
  clear h hr hr2 hB hb hL
  unfold ptr
  unfold ptr at AL
  go_enter Tryz.func31, Tryz.ntmps31
  go_wp2_with fail
  generalize w.alloc (.cells #[.int .i64 k, .int .i64 i, .int .u32 g] 25) = w1 at *
  refine AL.out.mono ?_
  rintro e w2 ⟨p, c, rfl, ho, hb⟩
  have H := Lib.hid (RdO.of_own ho)
  have B2 := Lib.hid (bel2 HB.out hb)
  have N2 := Lib.hid (N0.out.below hb)
  clear ho hb AL N0 HB
  obtain ⟨n, hn⟩ : ∃ n, L.length = n := ⟨_, rfl⟩
  rw [hn] at H hle
  rw [hn]
  have HN := Lib.hid hn
  clear hn
  go_wp2
  go_loopw [6] (fun v wr => ∃ j : Nat, j ≤ n ∧ v = .int .i64 j ∧ Hid (Below w2.heap.size w2 wr) ∧ Hid ((⟨k, i, g⟩ : Ro) ∉ L.take j)) (fun v _ => n - (intOf v).toNat)
  case atStart => exact ⟨0, Nat.zero_le _, rfl, Below.refl _ _, by simp [Hid]⟩
  case round =>
    obtain ⟨j, hj, rfl, HW, HNo⟩ := hrel
    by_cases hlt : j < n
    · obtain ⟨a0, a1, a2⟩ := LS.cells3 (N2.out.below HW.out)
      have hjm : j < L.length := by have := HN.out; omega
      obtain ⟨q, off, rfl, hq, t0, t1, t2⟩ := (H.out.below HW.out).cell hjm
      obtain ⟨y, hy⟩ : ∃ y, L[j] = y := ⟨_, rfl⟩
      have hy2 : L[j]? = some y := by rw [List.getElem?_eq_getElem hjm, hy]
      rw [hy] at t0 t1 t2
      have NX : Hid (y ≠ ⟨k, i, g⟩ → (⟨k, i, g⟩ : Ro) ∉ L.take (j + 1)) := fun hne => by
        rw [List.take_add_one, hy2]
        simp only [Option.toList_some, List.mem_append, List.mem_singleton, not_or]
        exact ⟨HNo.out, fun e => hne e.symm⟩
      have HM := Lib.hid (List.mem_of_getElem? hy2)
      clear hy hjm hy2
      obtain ⟨k', i', g'⟩ := y
      simp only at t0 t1 t2
      by_cases c0 : k' = k
      · subst c0
        by_cases c1 : i' = i
        · subst c1
          by_cases c2 : g' = g
          · subst c2
            have hrt : r = true := HR.out.2 HM.out
            subst hrt
            go_wp2
            go_quiet (fail)
            go_wp2
            go_ret
            exact ⟨rfl, B2.out.trans ((bel_drewN HW.out _).mono B2.out.size)⟩
          · have d2 : (g' == g) = false := beq_eq_false_iff_ne.2 c2
            have N3 := Lib.hid (NX.out (by simp; omega))
            clear c2 NX
            go_wp2
            go_quiet (fail)
            go_wp2
            go_roundw
            case rel => exact ⟨j + 1, by omega, by go_num, bel_drewN HW.out _, N3.out⟩
            case measure => simp [intOf]; omega
        · have d2 : (i' == i) = false := beq_eq_false_iff_ne.2 c1
          have N3 := Lib.hid (NX.out (by simp; omega))
          clear c1 NX
          go_wp2
          go_quiet (fail)
          go_wp2
          go_roundw
          case rel => exact ⟨j + 1, by omega, by go_num, bel_drewN HW.out _, N3.out⟩
          case measure => simp [intOf]; omega
      · have d2 : (k' == k) = false := beq_eq_false_iff_ne.2 c0
        have N3 := Lib.hid (NX.out (by simp; omega))
        clear c0 NX
        go_wp2
        go_quiet (fail)
        go_wp2
        go_roundw
        case rel => exact ⟨j + 1, by omega, by go_num, bel_drewN HW.out _, N3.out⟩
        case measure => simp [intOf]; omega
    · obtain rfl : j = n := by omega
      have hno : (⟨k, i, g⟩ : Ro) ∉ L := by
        have := HNo.out
        rwa [List.take_of_length_le (by have := HN.out; omega)] at this
      have hrf : r = false := by
        cases r with
        | false => rfl
        | true => exact absurd (HR.out.1 rfl) hno
      subst hrf
      clear hno
      go_wp2
      go_ret
      exact ⟨rfl, B2.out.trans (HW.out.mono B2.out.size)⟩
/-- The error if a resource is no lease that is there. -/
def Wd.qE (W : Wd) (k i g : Int) : Int := if k ≠ 3 then 8 else if ¬ W.Here k i g then 5 else 0
set_option maxHeartbeats 1000000 in
theorem rlease_ok (x : Rx) (W : Wd) (k i g E : Int) (w : World) (h : RW w x W) (hE : W.qE k i g = E) :
    Calls Tryz.prog 81 #[ptr x.r, .agg #[.int .i64 k, .int .i64 i, .int .u32 g]] w fun e w' => e = .returned (.int .i64 E) ∧ Below w.heap.size w w' := by
  subst hE
  have hB := Bk.new w 25 #[.int .i64 k, .int .i64 i, .int .u32 g]
  have hb := bel_new w (.cells #[.int .i64 k, .int .i64 i, .int .u32 g] 25)
  obtain ⟨a0, a1, a2⟩ := LS.cells3 hB
  have H := Lib.hid (h.below hb).1
  have HB := Lib.hid hb
  clear h hB hb
  unfold Wd.qE
  by_cases h3 : k = 3
  · subst h3
    rw [if_neg (not_not_intro rfl)]
    by_cases hh : W.Here 3 i g
    · rw [if_neg (not_not_intro hh)]
      have HS := Lib.hid (rhas_ok x W 3 i g true _ H.out (by simpa using hh))
      unfold ptr at *
      clear hh
      go_enter Tryz.func81, Tryz.ntmps81
      go_wp2_with fail
      refine HS.out.mono ?_
      rintro e w2 ⟨rfl, hb⟩
      have B2 := Lib.hid (bel2 HB.out hb)
      clear hb
      go_wp2
      go_ret
      exact ⟨rfl, B2.out⟩
    · rw [if_pos hh]
      have HS := Lib.hid (rhas_ok x W 3 i g false _ H.out (by simpa using hh))
      unfold ptr at *
      clear hh
      go_enter Tryz.func81, Tryz.ntmps81
      go_wp2_with fail
      refine HS.out.mono ?_
      rintro e w2 ⟨rfl, hb⟩
      have B2 := Lib.hid (bel2 HB.out hb)
      clear hb
      go_wp2
      go_ret
      exact ⟨rfl, B2.out⟩
  · rw [if_pos h3]
    have d : (k != 3) = true := by simpa using h3
    unfold ptr at *
    clear h3
    go_enter Tryz.func81, Tryz.ntmps81
    go_wp2
    go_ret
    exact ⟨rfl, HB.out⟩
theorem runtil_nil (k i g : Int) (w : World) : Calls Tryz.prog 29 #[.pointer none, .agg #[.int .i64 k, .int .i64 i, .int .u32 g]] w fun e w' => e = .returned (.tuple #[.int .i64 0, .int .i64 1]) ∧ Below w.heap.size w w' := by
  have HB := Lib.hid (bel_new w (.cells #[.int .i64 k, .int .i64 i, .int .u32 g] 25))
  go_enter Tryz.func29, Tryz.ntmps29
  go_wp2_with fail
  refine (rv_nil _).mono ?_
  rintro e w' ⟨rfl, rfl⟩
  go_wp2
  exact bodyPost_ret (v := .tuple #[.int .i64 0, .int .i64 1]) (by simp [results, Tryz.results29, go_sem]) rfl ⟨rfl, HB.out⟩
theorem rrenew_nil (k i g t : Int) (w : World) : Calls Tryz.prog 21 #[.pointer none, .agg #[.int .i64 k, .int .i64 i, .int .u32 g], .int .i64 t] w fun e w' => e = .returned (.int .i64 1) ∧ Below w.heap.size w w' := by
  have HB := Lib.hid (bel_new w (.cells #[.int .i64 k, .int .i64 i, .int .u32 g] 25))
  go_enter Tryz.func21, Tryz.ntmps21
  go_wp2_with fail
  refine (rv_nil _).mono ?_
  rintro e w' ⟨rfl, rfl⟩
  go_wp2
  go_ret
  exact ⟨rfl, HB.out⟩
set_option maxRecDepth 100000 in
set_option maxHeartbeats 2000000 in
theorem runtil_ok (x : Rx) (W : Wd) (k i g : Int) (w : World) (h : RW w x W) (hr : RgO k i g) :
    Calls Tryz.prog 29 #[ptr x.r, .agg #[.int .i64 k, .int .i64 i, .int .u32 g]] w fun e w' => e = .returned (.tuple #[.int .i64 (W.til k i g), .int .i64 (W.uE k i g)]) ∧ Below w.heap.size w w' := by
  have hB := Bk.new w 25 #[.int .i64 k, .int .i64 i, .int .u32 g]
  have hb := bel_new w (.cells #[.int .i64 k, .int .i64 i, .int .u32 g] 25)
  obtain ⟨a0, a1, a2⟩ := LS.cells3 hB
  have H := Lib.hid (h.below hb).1
  have N := Lib.hid hB
  have HB := Lib.hid hb
  have hu : W.uE k i g = if Poss k i g then W.qE k i g else 2 := by
    show W.hE k i g true = _
    unfold Wd.hE Wd.qE
    by_cases hp : Poss k i g
    · rw [if_neg (not_not_intro ⟨hp, rfl⟩), if_pos hp]
    · rw [if_pos (fun c => hp c.1), if_neg hp]
  have CK := Lib.hid (rck_is k i g hr)
  have HT := Lib.hid (fun e => h.ok.til_ne (k := k) (i := i) (g := g) e)
  have HZ := Lib.hid (fun e => h.ok.hE_zero (k := k) (i := i) (g := g) (r := true) e)
  have HR := Lib.hid hr
  have c0 := H.out.c0
  clear h hB hb hr
  obtain ⟨E, hE⟩ : ∃ E, W.uE k i g = E := ⟨_, rfl⟩
  obtain ⟨L, hL⟩ : ∃ L : Int, W.til k i g = L := ⟨_, rfl⟩
  have hz0 : E ≠ 0 → L = 0 := fun c => by rw [← hL, HT.out (by rw [hE]; exact c)]
  have hz1 : E = 0 → W.D.chk k i g = 0 := fun c => (HZ.out (by show W.uE k i g = 0; rw [hE]; exact c)).2
  rw [hE] at hu ⊢
  rw [hL]
  have HL := Lib.hid hL
  clear HT HZ hE hL
  generalize hw1 : w.alloc (.cells #[.int .i64 k, .int .i64 i, .int .u32 g] 25) = w1 at *
  have W1 := Lib.hid hw1
  clear hw1
  unfold ptr at *
  by_cases hp : Poss k i g
  · rw [if_pos hp] at hu
    have hCK := CK.out w1
    rw [if_pos hp] at hCK
    have CK2 := Lib.hid hCK
    have LE : Hid (∀ V, Below w1.heap.size w1 V → Calls Tryz.prog 81 #[.pointer (some ⟨x.r, 0, none⟩), .agg #[.int .i64 k, .int .i64 i, .int .u32 g]] V fun e w' => e = .returned (.int .i64 E) ∧ Below V.heap.size V w') := fun V hV => by
      have := rlease_ok x W k i g E V (H.out.below hV).1 hu.symm
      unfold ptr at this
      exact this
    clear hp hu CK hCK
    go_enter Tryz.func29, Tryz.ntmps29
    go_wp2_with fail
    rw [W1.out]
    refine (rv_yes _ _ c0).mono ?_
    rintro e w' ⟨rfl, rfl⟩
    go_wp2_with fail
    refine CK2.out.mono ?_
    rintro e w2 ⟨rfl, hb2⟩
    have B2 := Lib.hid hb2
    clear a0 a1 a2 c0
    obtain ⟨a0, a1, a2⟩ := LS.cells3 (N.out.below hb2)
    clear hb2 CK2
    go_wp2_with fail
    refine (LE.out w2 B2.out).mono ?_
    rintro e w3 ⟨rfl, hb3⟩
    have B3 := Lib.hid (bel2 B2.out hb3)
    clear a0 a1 a2 LE hb3 B2
    by_cases hz : E = 0
    · subst hz
      have hD := hz1 rfl
      have H4 := Lib.hid (H.out.below (bel_drewN B3.out 0)).1
      have D1 := Lib.hid (bel_drew B3.out)
      have H5 := Lib.hid (H.out.below D1.out).1
      have N5 := N.out.below D1.out
      obtain ⟨a0, a1, a2⟩ := LS.cells3 N5
      have c3 := H5.out.c3
      unfold ptr at c3
      have UN := Lib.hid (LS.euntil_ok x.q x.qc x.qd x.qg W.D k i g HR.out w3.drew H5.out.hD)
      rw [show ((W.D.til k i g : Nat) : Int) = L from HL.out, hD] at UN
      clear hz0 hz1 hD H4 N5
      go_upto_region 8 with fail
      go_region_held3 (fun W => W.cell? ⟨x.r, 3, none⟩ = some (.pointer (some ⟨x.q, 0, none⟩)) ∧ W.cell? ⟨w.heap.size, 0, none⟩ = some (.int .i64 k) ∧ W.cell? ⟨w.heap.size, 1, none⟩ = some (.int .i64 i) ∧ W.cell? ⟨w.heap.size, 2, none⟩ = some (.int .u32 g)) (first | (with_reducible exact hz8) | (with_reducible exact ⟨c3, a0, a1, a2⟩)) (first
        | (go_at_call 93; refine UN.out.mono ?_; rintro e w5 ⟨rfl, hb5⟩; have hz8 := And.intro (cell_keeps hb5 c3) (And.intro (cell_keeps hb5 a0) (And.intro (cell_keeps hb5 a1) (cell_keeps hb5 a2))); have B5 := Lib.hid (bel2 D1.out hb5); clear hb5))
      all_goals
        go_wp2
        exact bodyPost_ret (v := .tuple #[.int .i64 L, .int .i64 0]) (by simp [results, Tryz.results29, go_sem]) rfl ⟨rfl, bel2 HB.out B5.out⟩
    · have hL0 := hz0 hz
      subst hL0
      have d : (E != 0) = true := by simpa using hz
      clear hz hz0 hz1
      go_wp2
      exact bodyPost_ret (v := .tuple #[.int .i64 0, .int .i64 E]) (by simp [results, Tryz.results29, go_sem]) rfl ⟨rfl, bel2 HB.out B3.out⟩
  · rw [if_neg hp] at hu
    subst hu
    have hL0 := hz0 (by decide)
    subst hL0
    have hCK := CK.out w1
    rw [if_neg hp] at hCK
    have CK2 := Lib.hid hCK
    clear hp CK hCK hz0 hz1
    go_enter Tryz.func29, Tryz.ntmps29
    go_wp2_with fail
    rw [W1.out]
    refine (rv_yes _ _ c0).mono ?_
    rintro e w' ⟨rfl, rfl⟩
    go_wp2_with fail
    refine CK2.out.mono ?_
    rintro e w2 ⟨rfl, hb2⟩
    have B2 := Lib.hid hb2
    clear hb2
    go_wp2
    exact bodyPost_ret (v := .tuple #[.int .i64 0, .int .i64 2]) (by simp [results, Tryz.results29, go_sem]) rfl ⟨rfl, bel2 HB.out B2.out⟩
set_option maxRecDepth 100000 in
set_option maxHeartbeats 2000000 in
theorem rrenew_ok (x : Rx) (W : Wd) (k i g t : Int) (w : World) (h : RW w x W) (hr : RgO k i g) :
    Calls Tryz.prog 21 #[ptr x.r, .agg #[.int .i64 k, .int .i64 i, .int .u32 g], .int .i64 t] w fun e w' => e = .returned (.int .i64 (W.nE k i g t)) ∧ RW w' x (W.ren k i g t) ∧ RStep x x w w' := by
  have hB := Bk.new w 25 #[.int .i64 k, .int .i64 i, .int .u32 g]
  have hb := bel_new w (.cells #[.int .i64 k, .int .i64 i, .int .u32 g] 25)
  obtain ⟨a0, a1, a2⟩ := LS.cells3 hB
  have H0 := Lib.hid h
  have H := Lib.hid (h.below hb).1
  have N := Lib.hid hB
  have HB := Lib.hid hb
  obtain ⟨b, hbb⟩ : ∃ b, decide (LS.IsSpan t) = b := ⟨_, rfl⟩
  have HT := Lib.hid (fun e => h.ok.ren_ne (k := k) (i := i) (g := g) hbb e)
  have hu : W.hE k i g b = if Poss k i g ∧ b = true then W.qE k i g else 2 := by
    unfold Wd.hE Wd.qE
    by_cases hp : Poss k i g ∧ b = true
    · rw [if_neg (not_not_intro hp), if_pos hp]
    · rw [if_pos hp, if_neg hp]
  have CK := Lib.hid (rck_is k i g hr)
  have SP := Lib.hid (fun v => rsp_is t b v hbb)
  have HR := Lib.hid hr
  have c0 := H.out.c0
  rw [Wd.nE_of hbb]
  clear h hB hb hr hbb
  obtain ⟨E, hE⟩ : ∃ E, W.hE k i g b = E := ⟨_, rfl⟩
  rw [hE] at hu HT ⊢
  clear hE
  obtain ⟨Z, hZ⟩ : ∃ Z, (if E = 0 then W.D.rE k i g t W.T else E) = Z := ⟨_, rfl⟩
  have Z1 : E = 0 → W.D.rE k i g t W.T = Z := fun c => by rw [← hZ, if_pos c]
  have Z2 : E ≠ 0 → E = Z := fun c => by rw [← hZ, if_neg c]
  rw [hZ]
  clear hZ
  generalize hw1 : w.alloc (.cells #[.int .i64 k, .int .i64 i, .int .u32 g] 25) = w1 at *
  have W1 := Lib.hid hw1
  clear hw1
  unfold ptr at *
  by_cases hp : Poss k i g
  · have hCK := CK.out w1
    rw [if_pos hp] at hCK
    have CK2 := Lib.hid hCK
    cases b with
    | false =>
      rw [if_neg (by simp)] at hu
      subst hu
      have Z3 := Z2 (by decide)
      subst Z3
      clear Z1 Z2
      clear hp CK hCK
      go_enter Tryz.func21, Tryz.ntmps21
      go_wp2_with fail
      rw [W1.out]
      refine (rv_yes _ _ c0).mono ?_
      rintro e w' ⟨rfl, rfl⟩
      go_wp2_with fail
      refine CK2.out.mono ?_
      rintro e w2 ⟨rfl, hb2⟩
      have B2 := Lib.hid hb2
      clear hb2
      go_wp2_with fail
      refine (SP.out _).mono ?_
      rintro e w' ⟨rfl, rfl⟩
      go_wp2
      go_ret
      refine ⟨rfl, ?_, H0.out.quiet (bel2 HB.out B2.out)⟩
      rw [HT.out (by decide)]
      exact (H.out.below B2.out).1
    | true =>
      rw [if_pos ⟨hp, rfl⟩] at hu
      have LE : Hid (∀ V, Below w1.heap.size w1 V → Calls Tryz.prog 81 #[.pointer (some ⟨x.r, 0, none⟩), .agg #[.int .i64 k, .int .i64 i, .int .u32 g]] V fun e w' => e = .returned (.int .i64 E) ∧ Below V.heap.size V w') := fun V hV => by
        have := rlease_ok x W k i g E V (H.out.below hV).1 hu.symm
        unfold ptr at this
        exact this
      clear hp hu CK hCK
      go_enter Tryz.func21, Tryz.ntmps21
      go_wp2_with fail
      rw [W1.out]
      refine (rv_yes _ _ c0).mono ?_
      rintro e w' ⟨rfl, rfl⟩
      go_wp2_with fail
      refine CK2.out.mono ?_
      rintro e w2 ⟨rfl, hb2⟩
      have B2 := Lib.hid hb2
      clear a0 a1 a2 c0
      obtain ⟨a0, a1, a2⟩ := LS.cells3 (N.out.below hb2)
      clear hb2 CK2
      go_wp2_with fail
      refine (SP.out _).mono ?_
      rintro e w' ⟨rfl, rfl⟩
      go_wp2_with fail
      refine (LE.out w2 B2.out).mono ?_
      rintro e w3 ⟨rfl, hb3⟩
      have B3 := Lib.hid (bel2 B2.out hb3)
      clear a0 a1 a2 LE hb3 B2
      by_cases hz : E = 0
      · subst hz
        have ZZ := Lib.hid (Z1 rfl)
        clear Z1 Z2
        have D1 := Lib.hid (bel_drew B3.out)
        have H5 := Lib.hid (H.out.below D1.out).1
        have N5 := Lib.hid (N.out.below D1.out)
        obtain ⟨a0, a1, a2⟩ := LS.cells3 N5.out
        have c3 := H5.out.c3
        have c6 := H5.out.c6
        unfold ptr at c3
        have FIN : Hid (Calls Tryz.prog 82 #[.pointer (some ⟨x.q, 0, none⟩), .agg #[.int .i64 k, .int .i64 i, .int .u32 g], .int .i64 t, .int .i64 W.T] w3.drew fun e w' => e = .returned (.int .i64 (W.D.rE k i g t W.T)) ∧ (RW w' x (W.ren k i g t) ∧ RStep x x w w') ∧ w'.cell? ⟨x.r, 3, none⟩ = some (.pointer (some ⟨x.q, 0, none⟩)) ∧ w'.cell? ⟨x.r, 6, none⟩ = some (.int .i64 W.T) ∧ w'.cell? ⟨w.heap.size, 0, none⟩ = some (.int .i64 k) ∧ w'.cell? ⟨w.heap.size, 1, none⟩ = some (.int .i64 i) ∧ w'.cell? ⟨w.heap.size, 2, none⟩ = some (.int .u32 g)) := by
          refine (LS.erenew_ok x.q x.qc x.qd x.qg W.D k i g t W.T HR.out _ H5.out.hD).mono ?_
          rintro e w' ⟨rfl, q1, q2⟩
          obtain ⟨y1, y2⟩ := H5.out.stepD q2.out q1.out (H0.out.ok.ren k i g t)
          have y3 := y1.c3
          unfold ptr at y3
          exact ⟨rfl, ⟨y1, (H0.out.quiet (bel2 HB.out D1.out)).trans y2⟩, y3, y1.c6, LS.cells3 (N5.out.kept q2.out (H5.out.hD.off N5.out (by decide) (by decide) (by decide) (by decide)))⟩
        rw [ZZ.out] at FIN
        clear ZZ
        generalize W.T = T at *
        clear HT H N5
        go_upto_region 8 with fail
        go_region_held3 (fun V => V.cell? ⟨x.r, 3, none⟩ = some (.pointer (some ⟨x.q, 0, none⟩)) ∧ V.cell? ⟨x.r, 6, none⟩ = some (.int .i64 T) ∧ V.cell? ⟨w.heap.size, 0, none⟩ = some (.int .i64 k) ∧ V.cell? ⟨w.heap.size, 1, none⟩ = some (.int .i64 i) ∧ V.cell? ⟨w.heap.size, 2, none⟩ = some (.int .u32 g)) (first | (with_reducible exact hz8) | (with_reducible exact ⟨c3, c6, a0, a1, a2⟩)) (first
          | (go_at_call 82; refine FIN.out.mono ?_; rintro e w5 ⟨rfl, hf5, hz8⟩; have HF := Lib.hid hf5; clear hf5))
        all_goals
          go_wp2
          go_ret
          exact ⟨rfl, HF.out⟩
      · have Z3 := Z2 hz
        subst Z3
        clear Z1 Z2
        have d : (E != 0) = true := by simpa using hz
        have hTT := Lib.hid (HT.out hz)
        clear hz HT
        go_wp2
        go_ret
        exact ⟨rfl, by rw [hTT.out]; exact (H.out.below B3.out).1, H0.out.quiet (bel2 HB.out B3.out)⟩
  · rw [if_neg (fun c => hp c.1)] at hu
    subst hu
    have Z3 := Z2 (by decide)
    subst Z3
    clear Z1 Z2
    have hCK := CK.out w1
    rw [if_neg hp] at hCK
    have CK2 := Lib.hid hCK
    clear hp CK hCK
    go_enter Tryz.func21, Tryz.ntmps21
    go_wp2_with fail
    rw [W1.out]
    refine (rv_yes _ _ c0).mono ?_
    rintro e w' ⟨rfl, rfl⟩
    go_wp2_with fail
    refine CK2.out.mono ?_
    rintro e w2 ⟨rfl, hb2⟩
    have B2 := Lib.hid hb2
    clear hb2
    go_wp2
    go_ret
    refine ⟨rfl, ?_, H0.out.quiet (bel2 HB.out B2.out)⟩
    rw [HT.out (by decide)]
    exact (H.out.below B2.out).1
end Go.Proofs.YtpinmiplefidpaaGreatDoor
