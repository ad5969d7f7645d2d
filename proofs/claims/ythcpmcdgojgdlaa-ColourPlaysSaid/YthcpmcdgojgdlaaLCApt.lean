/- The walk of the statement ColourApart: it returns true for all sizes, numbers, calls and slots. -/
import Derived.Test.YthcpmcdgojgdlaaLCSta
import Derived.Deep.CutRange
namespace Go.Proofs.Ythcpmcdgojgdlaa
open Go.RowKit

/-- A paint after a call with slot k, beside what its colours were. -/
structure Aft (w0 w : World) (b g n : Nat) (P Q : Pt) (k x : Nat) : Prop where
  c : CSt w0 w b Q
  l : Bl w g n P.c
  hn : Q.n = n
  hk : Q.c k = x
  ho : ∀ i, i ≠ k → Q.c i = P.c i
section
variable {w0 w : World} {b g n k c : Nat} {P : Pt}
theorem set_aft (hP : P.n = n) (v : Nat) : (P.set k v).n = n ∧ (P.set k v).c k = v ∧ ∀ i, i ≠ k → (P.set k v).c i = P.c i :=
  ⟨hP, by simp [Pt.set, put], fun i hi => by simp [Pt.set, put, hi]⟩
theorem turn_set (hk : k < P.n) {a : Nat} (v : Nat) (h : P.c k = a) : P.turn k a v = P.set k v := by
  unfold Pt.turn
  rw [if_pos ⟨(P.at_nat k).2 hk, by rw [Int.toNat_natCast]; exact h⟩, Int.toNat_natCast]
theorem turn_same (k : Nat) {a : Nat} (v : Nat) (h : P.c k ≠ a) : P.turn k a v = P := by
  unfold Pt.turn
  rw [if_neg (fun x => h (by have := x.2; rwa [Int.toNat_natCast] at this))]
theorem bleach_set (hk : k < P.n) : P.bleach k = P.set k 0 := by
  unfold Pt.bleach
  rw [if_pos ((P.at_nat k).2 hk), Int.toNat_natCast]
theorem ap_turn (h : Col w0 w b g n P) (hP : P.n = n) (hk : k < n) (a v : Nat) {w' : World} (c : CSt w0 w' b (P.turn k a v)) (q : Kept (· = b) w w') : Aft w0 w' b g n P (P.turn k a v) k (if P.c k = a then v else P.c k) := by
  have hl := h.l.kept q (h.l.ne h.c.p)
  by_cases e : P.c k = a
  · rw [turn_set (by omega) v e] at c ⊢
    obtain ⟨h1, h2, h3⟩ := set_aft (k := k) hP v
    exact ⟨c, hl, h1, by rw [h2, if_pos e], h3⟩
  · rw [turn_same k v e] at c ⊢
    exact ⟨c, hl, hP, by rw [if_neg e], fun _ _ => rfl⟩
theorem ap_shade (h : Col w0 w b g n P) (hP : P.n = n) (hk : k < n) : Calls Try.prog 12 #[.pointer (some ⟨b, 0, none⟩), .int .i64 k] w fun e w' => e = .returned (.tuple #[.bool (decide (P.c k = 0)), .int .i64 0]) ∧ Aft w0 w' b g n P (P.turn k 0 1) k (if P.c k = 0 then 1 else P.c k) :=
  (shade_s k _ 0 h.c (shadeB_in (by omega)) (chk_in (by omega))).mono fun _ _ ⟨k1, k2, k3⟩ => ⟨k1, ap_turn h hP hk 0 1 k2 k3⟩
theorem ap_black (h : Col w0 w b g n P) (hP : P.n = n) (hk : k < n) : Calls Try.prog 14 #[.pointer (some ⟨b, 0, none⟩), .int .i64 k] w fun e w' => e = .returned (.int .i64 (if P.c k = 1 then 0 else 8)) ∧ Aft w0 w' b g n P (P.turn k 1 2) k (if P.c k = 1 then 2 else P.c k) :=
  (black_s k _ h.c (turnE_in (by omega) 1)).mono fun _ _ ⟨k1, k2, k3⟩ => ⟨k1, ap_turn h hP hk 1 2 k2 k3⟩
theorem ap_born (h : Col w0 w b g n P) (hP : P.n = n) (hk : k < n) : Calls Try.prog 16 #[.pointer (some ⟨b, 0, none⟩), .int .i64 k] w fun e w' => e = .returned (.int .i64 (if P.c k = 0 then 0 else 8)) ∧ Aft w0 w' b g n P (P.turn k 0 2) k (if P.c k = 0 then 2 else P.c k) :=
  (born_s k _ h.c (turnE_in (by omega) 0)).mono fun _ _ ⟨k1, k2, k3⟩ => ⟨k1, ap_turn h hP hk 0 2 k2 k3⟩
theorem ap_bleach (h : Col w0 w b g n P) (hP : P.n = n) (hk : k < n) : Calls Try.prog 18 #[.pointer (some ⟨b, 0, none⟩), .int .i64 k] w fun e w' => e = .returned (.int .i64 0) ∧ Aft w0 w' b g n P (P.bleach k) k 0 := by
  refine (bleach_s k 0 h.c (chk_in (by omega))).mono ?_
  rintro e w' ⟨k1, k2, k3⟩
  rw [bleach_set (by omega)] at k2 ⊢
  obtain ⟨h1, h2, h3⟩ := set_aft (k := k) hP 0
  exact ⟨k1, k2, h.l.kept k3 (h.l.ne h.c.p), h1, h2, h3⟩
end
theorem PtdV.drew {n q : Nat} {w w' : World} {e : Ending} (h : PtdV n (w.drewN q) e w') : PtdV n w e w' := by
  obtain ⟨b, P, h1, h2, h3⟩ := h
  exact ⟨b, P, h1, h2, h3.p, ⟨h3.bel.os, h3.bel.tape, h3.bel.output, h3.bel.size, h3.bel.block⟩, h3.lb⟩
set_option maxRecDepth 100000 in
set_option maxHeartbeats 16000000 in
theorem apart_core (sz : Nat) (a : Option Addr) (len cap : Nat) (s : Nat → Nat) (d sl : Nat) (w : World) (hsz : sz ≤ 255) (hle : len ≤ cap) (hcap : cap ≤ 9223372036854775807) (hu : Nums .u8 255 w a len s) (hd : d ≤ 255) (hsl : sl ≤ 255) :
    Calls Try.prog 7 #[.int .u8 sz, .slice a len cap, .int .u8 d, .int .u8 sl] w fun e w' => e = .returned (.bool true) ∧ Below w.heap.size w w' := by
  obtain ⟨n, hn⟩ : ∃ n, n = sz + 1 := ⟨_, rfl⟩
  have EN : Hid ((1 : Int) + (sz : Int) = (n : Int)) := by unfold Hid; omega
  have hn256 : 1 ≤ n ∧ n ≤ 256 := by omega
  have HPT := Lib.hid (fun q => (painted_ok n a len cap s (w.drewN q) (by omega) (by omega) hle hcap (hu.below (bel_drewN (Below.refl _ w) q))).mono fun _ _ h => h.drew)
  obtain ⟨k, hk⟩ : ∃ k, sl % n = k := ⟨_, rfl⟩
  have hkn : k < n := by rw [← hk]; exact Nat.mod_lt _ (by omega)
  have e2 : (sl : Int) % (1 + (sz : Int)) = (k : Int) := by
    have := congrArg (fun n : Nat => (n : Int)) hk
    rw [EN.out]
    simpa using this
  have e1 : (sl : Int).tmod (1 + (sz : Int)) = (k : Int) := by rw [Int.tmod_eq_emod_of_nonneg (by omega)]; exact e2
  have hz : ((1 : Int) + (sz : Int) == 0) = false := by simp; omega
  clear hu hn hk
  go_enter Try.func7, Try.ntmps7
  go_wp2
  go_quiet (fail)
  clear e1 e2 hz
  go_wp2_with fail
  rw [EN.out]
  refine (HPT.out _).mono ?_
  rintro e w1 ⟨b, P, hP, rfl, s1⟩
  have HP := Lib.hid hP
  have S1 := Lib.hid s1
  clear HPT hP s1
  go_wp2_with fail
  refine (colours_ok b n P _ S1.out.p HP.out).mono ?_
  rintro e w2 ⟨g, _, rfl, hl, hb⟩
  have C2 : Hid (Col w w2 b g n P) := ⟨S1.out.quiet hb, hl⟩
  have HX := Lib.hid (C2.out.c.p.ok.le k)
  have hv := C2.out.l.val hkn
  have hgl := C2.out.l.lt
  have hnil := nil_no g n n
  clear hl hb S1
  have OPS := Lib.hid (ap_shade C2.out HP.out hkn)
  have OPB := Lib.hid (ap_black C2.out HP.out hkn)
  have OPN := Lib.hid (ap_born C2.out HP.out hkn)
  have OPL := Lib.hid (ap_bleach C2.out HP.out hkn)
  obtain ⟨x, hx⟩ : ∃ x, P.c k = x := ⟨_, rfl⟩
  rw [hx] at OPS OPB OPN HX hv
  clear hx
  go_upto_region 9 with fail
  rename_i K3 hK3
  have hK4 : ∀ a w, Hid _ → K3 a w := fun a w h => hK3 a w h.out
  clear hK3 hv
  obtain ⟨r, hr⟩ : ∃ r, d % 4 = r := ⟨_, rfl⟩
  have r2 : (d : Int) % 4 = (r : Int) := by omega
  have r1 : (d : Int).tmod 4 = (r : Int) := by rw [Int.tmod_eq_emod_of_nonneg (by omega)]; exact r2
  have hr4 : r < 4 := by omega
  clear hr
  go_wp2_with fail
  unfold Hid
  clear r1 r2
  go_cut [13, 14, 15, 16] from 43 to 74 (fun v13 v14 v15 v16 wx => ∃ (Q : Pt) (y : Nat) (E : Int), v13 = .int .i64 y ∧ v14 = .int .i64 E ∧ v15 = .int .i64 E ∧ Hid (Aft w wx b g n P Q k y))
  case first =>
    have hr0 : r = 0 ∨ r = 1 ∨ r = 2 ∨ r = 3 := by omega
    have hx0 := HX.out
    rcases hr0 with rfl | rfl | rfl | rfl
    · have hx3 : x = 0 ∨ x = 1 ∨ x = 2 := by omega
      clear hx0
      rcases hx3 with rfl | rfl | rfl
      · have o := OPS.out
        rw [if_pos rfl, decide_eq_true (by decide)] at o
        have O := Lib.hid o
        clear o
        go_wp2_with (go_at_call 12; refine O.out.mono ?_; rintro e w3 ⟨rfl, h3⟩; have H3 := Lib.hid h3; clear h3)
        go_meet
        exact ⟨_, 1, 0, rfl, rfl, rfl, H3.out⟩
      · have o := OPS.out
        rw [if_neg (by decide), decide_eq_false (by decide)] at o
        have O := Lib.hid o
        clear o
        go_wp2_with (go_at_call 12; refine O.out.mono ?_; rintro e w3 ⟨rfl, h3⟩; have H3 := Lib.hid h3; clear h3)
        go_meet
        exact ⟨_, 1, 0, rfl, rfl, rfl, H3.out⟩
      · have o := OPS.out
        rw [if_neg (by decide), decide_eq_false (by decide)] at o
        have O := Lib.hid o
        clear o
        go_wp2_with (go_at_call 12; refine O.out.mono ?_; rintro e w3 ⟨rfl, h3⟩; have H3 := Lib.hid h3; clear h3)
        go_meet
        exact ⟨_, 2, 0, rfl, rfl, rfl, H3.out⟩
    · by_cases hxe : x = 1
      · subst hxe
        have o := OPB.out
        rw [if_pos rfl, if_pos rfl] at o
        have O := Lib.hid o
        clear o
        go_wp2_with (go_at_call 14; refine O.out.mono ?_; rintro e w3 ⟨rfl, h3⟩; have H3 := Lib.hid h3; clear h3)
        go_meet
        exact ⟨_, 2, 0, rfl, rfl, rfl, H3.out⟩
      · have o := OPB.out
        rw [if_neg hxe, if_neg hxe] at o
        have O := Lib.hid o
        have hb : ((x : Int) != 1) = true := by simp; omega
        clear o hxe
        go_wp2_with (go_at_call 14; refine O.out.mono ?_; rintro e w3 ⟨rfl, h3⟩; have H3 := Lib.hid h3; clear h3)
        go_meet
        exact ⟨_, x, 8, rfl, rfl, rfl, H3.out⟩
    · by_cases hxe : x = 0
      · subst hxe
        have o := OPN.out
        rw [if_pos rfl, if_pos rfl] at o
        have O := Lib.hid o
        clear o
        go_wp2_with (go_at_call 16; refine O.out.mono ?_; rintro e w3 ⟨rfl, h3⟩; have H3 := Lib.hid h3; clear h3)
        go_meet
        exact ⟨_, 2, 0, rfl, rfl, rfl, H3.out⟩
      · have o := OPN.out
        rw [if_neg hxe, if_neg hxe] at o
        have O := Lib.hid o
        have hb : ((x : Int) != 0) = true := by simp; omega
        clear o hxe
        go_wp2_with (go_at_call 16; refine O.out.mono ?_; rintro e w3 ⟨rfl, h3⟩; have H3 := Lib.hid h3; clear h3)
        go_meet
        exact ⟨_, x, 8, rfl, rfl, rfl, H3.out⟩
    · have O := Lib.hid OPL.out
      go_wp2_with (go_at_call 18; refine O.out.mono ?_; rintro e w3 ⟨rfl, h3⟩; have H3 := Lib.hid h3; clear h3)
      go_meet
      exact ⟨_, 0, 0, rfl, rfl, rfl, H3.out⟩
  case rest =>
    obtain ⟨Q, y, E, rfl, rfl, rfl, HA⟩ := hcut
    clear OPS OPB OPN OPL HX hgl
    have hee : (E != E) = false := by simp
    go_wp2_with fail
    refine (colours_ok b n Q _ HA.out.c.p HA.out.hn).mono ?_
    rintro e w4 ⟨h, _, rfl, hl, hb⟩
    have HB := Lib.hid (HA.out.l.below hb)
    have HL := Lib.hid hl
    have HW := Lib.hid (bel2 HA.out.c.bel hb)
    have HE := Lib.hid (And.intro HA.out.hk HA.out.ho)
    have hnil2 := nil_no h n n
    clear hl hb HA C2
    go_wp2
    clear hee hnil hnil2
    go_loopw [86] (fun v wr => ∃ i : Nat, i ≤ n ∧ v = .int .i64 i ∧ Hid (Bl wr g n P.c) ∧ Hid (Bl wr h n Q.c) ∧ Hid (Below w.heap.size w wr)) (fun v _ => n - (intOf v).toNat)
    case atStart => exact ⟨0, Nat.zero_le _, rfl, HB.out, HL.out, HW.out⟩
    case round =>
      obtain ⟨i, hi, rfl, HC, HM, HY⟩ := hrel
      by_cases hlt : i < n
      · have hv := HC.out.val hlt
        have hv2 := HM.out.val hlt
        have hgl := HC.out.lt
        have hhl := HM.out.lt
        by_cases hik : i = k
        · subst hik
          rw [HE.out.1] at hv2
          generalize P.c i = z at *
          have h1 : ((i : Int) != (i : Int)) = false := by simp
          have h2 : ((i : Int) == (i : Int)) = true := by simp
          have h3 : ((y : Int) != (y : Int)) = false := by simp
          go_wp2
          go_quiet (fail)
          go_wp2
          go_roundw
          case rel => exact ⟨i + 1, by omega, by go_num, HC.out.drewN _, HM.out.drewN _, bel_drewN HY.out _⟩
          case measure => simp [intOf]; omega
        · rw [HE.out.2 i hik] at hv2
          generalize P.c i = z at *
          have h1 : ((i : Int) != (k : Int)) = true := by simp; omega
          have h2 : ((i : Int) == (k : Int)) = false := by simp; omega
          have h3 : ((z : Int) != (z : Int)) = false := by simp
          clear hik
          go_wp2
          go_quiet (fail)
          go_wp2
          go_roundw
          case rel => exact ⟨i + 1, by omega, by go_num, HC.out.drewN _, HM.out.drewN _, bel_drewN HY.out _⟩
          case measure => simp [intOf]; omega
      · obtain rfl : i = n := by omega
        go_wp2_with fail
        refine (works_ok _).mono ?_
        rintro e wz ⟨rfl, hb⟩
        have HB := Lib.hid (bel2 HY.out hb)
        clear hb
        go_wp2
        go_ret
        exact ⟨rfl, HB.out⟩
theorem cApt_walk (sz : Int) (a : Option Addr) (len cap : Nat) (s : Nat → Nat) (d sl : Int) (w : World) (g0 : 0 ≤ sz) (g1 : sz ≤ 255) (hle : len ≤ cap) (hcap : cap ≤ 9223372036854775807) (hu : Nums .u8 255 w a len s) (h0 : 0 ≤ d) (h1 : d ≤ 255) (h2 : 0 ≤ sl) (h3 : sl ≤ 255) :
    Calls Try.prog 7 #[.int .u8 sz, .slice a len cap, .int .u8 d, .int .u8 sl] w fun e w' => e = .returned (.bool true) ∧ Below w.heap.size w w' := by
  obtain ⟨m, rfl⟩ := Int.eq_ofNat_of_zero_le g0
  obtain ⟨d, rfl⟩ := Int.eq_ofNat_of_zero_le h0
  obtain ⟨sl, rfl⟩ := Int.eq_ofNat_of_zero_le h2
  exact apart_core m a len cap s d sl w (by omega) hle hcap hu (by omega) (by omega)
end Go.Proofs.Ythcpmcdgojgdlaa
