/- The walk of the statement SlotsPlays: it returns true for all sizes, generations, scripts and slots. -/
import Derived.Test.YtgdboppdncoieaaSz
import Derived.Test.YtgdboppdncoieaaSy
import Derived.OwnWalk
namespace Go.Proofs.Ytgdboppdncoieaa
open Go.RowKit

set_option maxRecDepth 100000 in
set_option maxHeartbeats 16000000 in
theorem plays4_core (size first : Int) (a : Option Addr) (len cap : Nat) (dos is gs : Nat → Int) (slot : Int) (w : World) (h0 : 0 ≤ first) (h1 : first ≤ 4294967295) (hl : len ≤ 200) (hu : Steps w a len dos is gs) :
    Calls Try.prog 3 #[.int .i64 size, .int .u32 first, .slice a len cap, .int .i64 slot] w fun e w' => e = .returned (.bool true) ∧ Below w.heap.size w w' := by
  have HU := Lib.hid hu
  have HN := Lib.hid (new_o size first w h0 h1)
  have HF := Lib.hid (And.intro h0 h1)
  clear hu h0 h1
  go_enter Try.func3, Try.ntmps3
  go_wp2_with fail
  refine HN.out.mono ?_
  rintro e w1 ⟨p1, rfl, ht1, hb1⟩
  have HT1 := Lib.hid ht1
  have HB1 := Lib.hid hb1
  clear ht1 hb1 HN
  go_wp2_with fail
  refine (rnew_o size first _ HF.out.1 HF.out.2).mono ?_
  rintro e w2 ⟨r1, rfl, hr2, hb2⟩
  have hno := none_o HT1.out hr2
  have HS : Hid (PSt w w2 p1 r1 (oNew size first) (oNew size first)) := by
    refine ⟨HT1.out.below hb2, ?_, bel2 HB1.out hb2⟩
    revert hr2
    generalize oNew size first = o
    intro hr2
    cases o with
    | none => exact hr2
    | some T => obtain ⟨c, d, k1, k2, k3, k4⟩ := hr2; exact ⟨c, d, Nat.le_trans HB1.out.size k1, Nat.le_trans HB1.out.size k2, k3, k4⟩
  clear hr2 hb2 HT1 HB1 HF
  obtain ⟨o0, ho⟩ : ∃ o, oNew size first = o := ⟨_, rfl⟩
  rw [ho] at HS
  clear ho
  generalize oNewE size first = E
  have hee : (E != E) = false := by simp
  have hnn : (!(p1.isNone == r1.isNone)) = false := by
    rcases hno with ⟨rfl, rfl⟩ | ⟨x, y, rfl, rfl⟩ <;> rfl
  clear hno
  go_wp2
  clear hnn hee
  go_loopw [9, 11, 13] (fun tv rv ix wr => ∃ (k : Nat) (p1 r1 : Option Addr) (o : Option Tb), k ≤ len ∧ tv = .pointer p1 ∧ rv = .pointer r1 ∧ ix = .int .i64 k ∧ Hid (PSt w wr p1 r1 o o)) (fun _ _ ix _ => len - (intOf ix).toNat)
  case atStart => exact ⟨0, _, _, _, Nat.zero_le _, rfl, rfl, rfl, HS.out⟩
  case round =>
    clear HS
    obtain ⟨k, p2, r2, o, hk, rfl, rfl, rfl, HS⟩ := hrel
    by_cases hlt : k < len
    · obtain ⟨B, off, rfl, hB, hcells⟩ := (HU.out.below HS.out.bel).at_ (by omega)
      obtain ⟨hc0, hc1, hc2⟩ := hcells k hlt
      generalize dos k = D at *
      generalize is k = x at *
      generalize gs k = y at *
      have HM : Hid (SSt w (wr.alloc (.cells #[.int .i64 D, .int .i64 x, .int .u32 y] 35)) p2 r2 o o wr.heap.size #[.int .i64 D, .int .i64 x, .int .u32 y]) :=
        ⟨HS.out.quiet ((Below.refl _ wr).alloc (Nat.le_refl _) _), Bk.new wr _ _⟩
      obtain ⟨E, hE⟩ : ∃ E, oChk o x y = E := ⟨_, rfl⟩
      have HE1 := Lib.hid hE
      have hEE : (E != E) = false := by simp
      clear hE hcells
      by_cases hD0 : D = 0
      · subst hD0
        clear HE1 hEE
        go_wp2_with fail
        clear hc0 hc1 hc2
        refine (take_p HM.out).mono ?_
        rintro e w3 ⟨rfl, HT3⟩
        obtain ⟨xi, ei⟩ : ∃ z, oTI o = z := ⟨_, rfl⟩
        obtain ⟨xg, eg⟩ : ∃ z, oTG o = z := ⟨_, rfl⟩
        obtain ⟨xe, ee⟩ : ∃ z, oTE o = z := ⟨_, rfl⟩
        have HEQ := Lib.hid (And.intro ei (And.intro eg ee))
        rw [ei, eg, ee]
        have HA : Hid (SSt w (w3.alloc (.cells #[.int .i64 xi, .int .u32 xg] 33)) p2 r2 (oTake o) o wr.heap.size #[.int .i64 0, .int .i64 x, .int .u32 y]) := HT3.out.quiet ((Below.refl _ w3).alloc (Nat.le_refl _) _)
        have HBX : Hid (Bk (w3.alloc (.cells #[.int .i64 xi, .int .u32 xg] 33)) w3.heap.size 33 #[.int .i64 xi, .int .u32 xg]) := Bk.new w3 _ _
        clear ei eg ee
        go_wp2_with fail
        refine (rtake_p HA.out).mono ?_
        rintro e w4 ⟨rfl, HR4, hkp⟩
        rw [HEQ.out.1, HEQ.out.2.1, HEQ.out.2.2]
        have HB4 := hkp _ _ HBX.out
        have hb0 : w4.cell? ⟨w3.heap.size, 0, none⟩ = some (.int .i64 xi) := HB4.cell 0
        have hb1 : w4.cell? ⟨w3.heap.size, 1, none⟩ = some (.int .u32 xg) := HB4.cell 1
        have hbl : w3.heap.size < w4.heap.size := HB4.lt
        have HM0 : Hid (SSt w (w4.alloc (.cells #[.int .i64 xi, .int .u32 xg] 33)) p2 r2 (oTake o) (oTake o) wr.heap.size #[.int .i64 0, .int .i64 x, .int .u32 y]) := HR4.out.quiet ((Below.refl _ w4).alloc (Nat.le_refl _) _)
        have hii : ((xi : Int) == (xi : Int)) = true := by simp
        have hgg : ((xg : Int) == (xg : Int)) = true := by simp
        have hee : (xe != xe) = false := by simp
        clear HB4 hkp HBX HT3 HA HM HR4
        go_wp2
        clear hb0 hb1 hbl hii hgg hee
        obtain ⟨E2, hE2⟩ : ∃ E, oChk (oTake o) x y = E := ⟨_, rfl⟩
        have HE := Lib.hid hE2
        have hEE2 : (E2 != E2) = false := by simp
        clear hE2
        have hz0 := HM0.out.rr
        go_region_held3 (fun W => W.cell? ⟨wr.heap.size, 1, none⟩ = some (.int .i64 x) ∧ W.cell? ⟨wr.heap.size, 2, none⟩ = some (.int .u32 y)) (first | exact hz0 | exact hz1 | exact hz2 | exact hz3 | exact hz4)
          (first
          | (go_at_call 16; refine (check_m _ _ HE.out HM0 (by rfl) (by rfl) (by rfl) (by rfl)).mono ?_; rintro e s1 ⟨rfl, HM1, hz1⟩)
          | (go_at_call 17; refine (rcheck_m _ _ HE.out HM1 (by rfl) (by rfl) (by rfl) (by rfl)).mono ?_; rintro e s2 ⟨rfl, HM2, hz2⟩)
          | (go_at_call 22; refine (alike_m _ HM2 (by rfl) (by rfl) (by rfl) (by rfl)).mono ?_; rintro e s3 ⟨rfl, HM3, hz3⟩)
          | (go_at_call 22; refine (alike_m _ HM3 (by rfl) (by rfl) (by rfl) (by rfl)).mono ?_; rintro e s4 ⟨rfl, HM4, hz4⟩))
        go_wp2
        go_roundw
        case rel => exact ⟨k + 1, _, _, _, by omega, rfl, rfl, by go_num, HM4.out.p⟩
        case measure => simp [intOf]; omega
      by_cases hD1 : D = 1
      · subst hD1
        go_wp2
        clear hc0 hc1 hc2
        have hy0 := HM.out.rr
        go_region_held3 (fun W => W.cell? ⟨wr.heap.size, 1, none⟩ = some (.int .i64 x) ∧ W.cell? ⟨wr.heap.size, 2, none⟩ = some (.int .u32 y)) (first | exact hy0 | exact hy1 | exact hy2 | exact hy3 | exact hy4)
          (first
          | (go_at_call 16; refine (check_m _ _ HE1.out HM (by rfl) (by rfl) (by rfl) (by rfl)).mono ?_; rintro e s1 ⟨rfl, HN1, hy1⟩)
          | (go_at_call 17; refine (rcheck_m _ _ HE1.out HN1 (by rfl) (by rfl) (by rfl) (by rfl)).mono ?_; rintro e s2 ⟨rfl, HN2, hy2⟩)
          | (go_at_call 18; refine (give_m _ _ HE1.out HN2 (by rfl) (by rfl) (by rfl) (by rfl)).mono ?_; rintro e s3 ⟨rfl, HN3, hy3⟩)
          | (go_at_call 19; refine (rgive_m _ _ HE1.out HN3 (by rfl) (by rfl) (by rfl) (by rfl)).mono ?_; rintro e s4 ⟨rfl, HN4, hy4⟩))
        clear hy0 hy1 hy2 hy3 hEE
        have HM0 := HN4
        obtain ⟨E2, hE2⟩ : ∃ E, oChk (oGive o x y) x y = E := ⟨_, rfl⟩
        have HE := Lib.hid hE2
        have hEE2 : (E2 != E2) = false := by simp
        clear hE2
        have hz0 := HM0.out.rr
        clear hy4 HM HN1 HN2 HN3
        go_wp2
        go_region_held3 (fun W => W.cell? ⟨wr.heap.size, 1, none⟩ = some (.int .i64 x) ∧ W.cell? ⟨wr.heap.size, 2, none⟩ = some (.int .u32 y)) (first | exact hz0 | exact hz1 | exact hz2 | exact hz3 | exact hz4)
          (first
          | (go_at_call 16; refine (check_m _ _ HE.out HM0 (by rfl) (by rfl) (by rfl) (by rfl)).mono ?_; rintro e s1 ⟨rfl, HM1, hz1⟩)
          | (go_at_call 17; refine (rcheck_m _ _ HE.out HM1 (by rfl) (by rfl) (by rfl) (by rfl)).mono ?_; rintro e s2 ⟨rfl, HM2, hz2⟩)
          | (go_at_call 22; refine (alike_m _ HM2 (by rfl) (by rfl) (by rfl) (by rfl)).mono ?_; rintro e s3 ⟨rfl, HM3, hz3⟩)
          | (go_at_call 22; refine (alike_m _ HM3 (by rfl) (by rfl) (by rfl) (by rfl)).mono ?_; rintro e s4 ⟨rfl, HM4, hz4⟩))
        go_wp2
        go_roundw
        case rel => exact ⟨k + 1, _, _, _, by omega, rfl, rfl, by go_num, HM4.out.p⟩
        case measure => simp [intOf]; omega
      by_cases hD2 : D = 2
      · subst hD2
        go_wp2_with fail
        clear hc0 hc1 hc2
        refine (copy_p HM.out).mono ?_
        rintro e w3 ⟨p3, rfl, HC3⟩
        go_wp2_with fail
        refine (rcopy_p HC3.out).mono ?_
        rintro e w4 ⟨r3, rfl, HC4⟩
        clear HC3 HM HE1 hEE
        go_wp2
        have HM0 := HC4
        obtain ⟨E2, hE2⟩ : ∃ E, oChk o x y = E := ⟨_, rfl⟩
        have HE := Lib.hid hE2
        have hEE2 : (E2 != E2) = false := by simp
        clear hE2
        have hz0 := HM0.out.rr
        go_region_held3 (fun W => W.cell? ⟨wr.heap.size, 1, none⟩ = some (.int .i64 x) ∧ W.cell? ⟨wr.heap.size, 2, none⟩ = some (.int .u32 y)) (first | exact hz0 | exact hz1 | exact hz2 | exact hz3 | exact hz4)
          (first
          | (go_at_call 16; refine (check_m _ _ HE.out HM0 (by rfl) (by rfl) (by rfl) (by rfl)).mono ?_; rintro e s1 ⟨rfl, HM1, hz1⟩)
          | (go_at_call 17; refine (rcheck_m _ _ HE.out HM1 (by rfl) (by rfl) (by rfl) (by rfl)).mono ?_; rintro e s2 ⟨rfl, HM2, hz2⟩)
          | (go_at_call 22; refine (alike_m _ HM2 (by rfl) (by rfl) (by rfl) (by rfl)).mono ?_; rintro e s3 ⟨rfl, HM3, hz3⟩)
          | (go_at_call 22; refine (alike_m _ HM3 (by rfl) (by rfl) (by rfl) (by rfl)).mono ?_; rintro e s4 ⟨rfl, HM4, hz4⟩))
        go_wp2
        go_roundw
        case rel => exact ⟨k + 1, _, _, _, by omega, rfl, rfl, by go_num, HM4.out.p⟩
        case measure => simp [intOf]; omega
      have hd0 : (D == 0) = false := by simpa using hD0
      have hd1 : (D == 1) = false := by simpa using hD1
      have hd2 : (D == 2) = false := by simpa using hD2
      go_wp2
      clear hc0 hc1 hc2 hd0 hd1 hd2 hD0 hD1 hD2 hEE HE1
      have HM0 := HM
      obtain ⟨E2, hE2⟩ : ∃ E, oChk o x y = E := ⟨_, rfl⟩
      have HE := Lib.hid hE2
      have hEE2 : (E2 != E2) = false := by simp
      clear hE2
      have hz0 := HM0.out.rr
      go_region_held3 (fun W => W.cell? ⟨wr.heap.size, 1, none⟩ = some (.int .i64 x) ∧ W.cell? ⟨wr.heap.size, 2, none⟩ = some (.int .u32 y)) (first | exact hz0 | exact hz1 | exact hz2 | exact hz3 | exact hz4)
        (first
        | (go_at_call 16; refine (check_m _ _ HE.out HM0 (by rfl) (by rfl) (by rfl) (by rfl)).mono ?_; rintro e s1 ⟨rfl, HM1, hz1⟩)
        | (go_at_call 17; refine (rcheck_m _ _ HE.out HM1 (by rfl) (by rfl) (by rfl) (by rfl)).mono ?_; rintro e s2 ⟨rfl, HM2, hz2⟩)
        | (go_at_call 22; refine (alike_m _ HM2 (by rfl) (by rfl) (by rfl) (by rfl)).mono ?_; rintro e s3 ⟨rfl, HM3, hz3⟩)
        | (go_at_call 22; refine (alike_m _ HM3 (by rfl) (by rfl) (by rfl) (by rfl)).mono ?_; rintro e s4 ⟨rfl, HM4, hz4⟩))
      go_wp2
      go_roundw
      case rel => exact ⟨k + 1, _, _, _, by omega, rfl, rfl, by go_num, HM4.out.p⟩
      case measure => simp [intOf]; omega
    · obtain rfl : k = len := by omega
      clear hlt
      go_wp2_with fail
      refine (works_ok _).mono ?_
      rintro e w16 ⟨rfl, hb16⟩
      go_wp2
      go_ret
      exact ⟨rfl, bel2 HS.out.bel hb16⟩

set_option maxRecDepth 100000 in
theorem plays4_long (size first : Int) (a : Option Addr) (len cap : Nat) (slot : Int) (w : World) (hl : 200 < len) :
    Calls Try.prog 3 #[.int .i64 size, .int .u32 first, .slice a len cap, .int .i64 slot] w fun e w' => e = .returned (.bool true) ∧ Below w.heap.size w w' := by
  go_enter Try.func3, Try.ntmps3
  go_wp2_with fail
  refine (works_ok _).mono ?_
  rintro e w3 ⟨rfl, hb3⟩
  go_wp2
  go_ret
  exact ⟨rfl, hb3⟩
theorem plays4_walk (size first : Int) (a : Option Addr) (len cap : Nat) (dos is gs : Nat → Int) (slot : Int) (w : World) (_ : -9223372036854775808 ≤ size) (_ : size ≤ 9223372036854775807) (h0 : 0 ≤ first) (h1 : first ≤ 4294967295) (hu : Steps w a len dos is gs) (_ : -9223372036854775808 ≤ slot) (_ : slot ≤ 9223372036854775807) :
    Calls Try.prog 3 #[.int .i64 size, .int .u32 first, .slice a len cap, .int .i64 slot] w fun e w' => e = .returned (.bool true) ∧ Below w.heap.size w w' := by
  by_cases hl : len ≤ 200
  · exact plays4_core size first a len cap dos is gs slot w h0 h1 hl hu
  · exact plays4_long size first a len cap slot w (by omega)
end Go.Proofs.Ytgdboppdncoieaa
