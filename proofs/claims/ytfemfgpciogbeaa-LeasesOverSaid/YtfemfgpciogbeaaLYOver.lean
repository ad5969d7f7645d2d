/- The walk of LeasesOver: it returns true for every input. -/
import Derived.Test.YtfemfgpciogbeaaYw
namespace Go.Proofs.Ytfemfgpciogbeaa
open Go.RowKit

/-- The desk of LeasesOver: one id, granted until y. -/
def YO (y : Nat) : Dk := (dfresh 1 1).took 0 y
theorem YO.chk (y : Nat) : (YO y).chk 3 0 1 = 0 := rfl
theorem YO.til (y : Nat) : ((YO y).til 3 0 1 : Int) = y := by unfold Dk.til; rw [if_pos (YO.chk y)]; rfl
theorem YO.oE (y : Nat) {now : Int} (h : IsTime now) : (YO y).oE 3 0 1 now = 0 := if_pos h
theorem YO.ovr (y : Nat) {now : Int} (h : IsTime now) : (YO y).ovr 3 0 1 now = decide ((y : Int) ≤ now) := by unfold Dk.ovr; rw [if_pos (YO.oE y h)]; rfl
theorem YO.rE (y : Nat) {x now : Int} (h1 : IsSpan x) (h2 : IsTime now) : (YO y).rE 3 0 1 x now = if (y : Int) ≤ now then 8 else if now + x ≤ 1099511627776 then 0 else 17 := Dk.rE_held h1 h2 (YO.chk y)
theorem YO.renew (y : Nat) {x now : Int} (h : (YO y).rE 3 0 1 x now = 0) : (YO y).renew 3 0 1 x now = YO (now + x).toNat := by
  unfold Dk.renew
  rw [if_pos h]
  unfold YO Dk.took Dk.until
  congr 1
  funext i
  simp only [put]
  split <;> simp_all
theorem YO.grant {x now : Int} (h1 : IsSpan x) (h2 : IsTime now) (h3 : now + x ≤ 1099511627776) : (dfresh 1 1).gE x now = 0 ∧ (dfresh 1 1).gK x now = 3 ∧ (dfresh 1 1).gI x now = 0 ∧ (dfresh 1 1).gG x now = 1 ∧ (dfresh 1 1).grant x now = YO (now + x).toNat := by
  have hf : (dfresh 1 1).t.free = [0] := rfl
  have h0 := Dk.gE_ok (D := dfresh 1 1) h1 h2 h3 hf
  obtain ⟨e1, e2, e3, e4⟩ := Dk.grant_zero h0 hf
  exact ⟨h0, e2, e3, e4, e1⟩

set_option maxHeartbeats 4000000 in
set_option maxRecDepth 100000 in
theorem yOver_walk (x0 x1 x2 x3 : Int) (w : World) (h00 : 0 ≤ x0) (h01 : x0 ≤ 4294967295) (h10 : 0 ≤ x1) (h11 : x1 ≤ 18446744073709551615) (h20 : 0 ≤ x2) (h21 : x2 ≤ 4294967295) (h30 : 0 ≤ x3) (h31 : x3 ≤ 4294967295) :
    Calls Try.prog 6 #[.int .u32 x0, .int .u64 x1, .int .u32 x2, .int .u32 x3] w fun e w' => e = .returned (.bool true) ∧ Below w.heap.size w w' := by
  obtain ⟨n, hn⟩ : ∃ n : Nat, 1 + x0 % 1048576 = (n : Int) := ⟨(1 + x0 % 1048576).toNat, by omega⟩
  obtain ⟨t, ht⟩ : ∃ t : Nat, x1 % 1099507433472 = (t : Int) := ⟨(x1 % 1099507433472).toNat, by omega⟩
  obtain ⟨q, hq⟩ : ∃ q : Nat, x2 % 2097152 = (q : Int) := ⟨(x2 % 2097152).toNat, by omega⟩
  obtain ⟨m, hm⟩ : ∃ m : Nat, 1 + x3 % 1048576 = (m : Int) := ⟨(1 + x3 % 1048576).toNat, by omega⟩
  have n1 : (1 : Int) ≤ n := by omega
  have n2 : (n : Int) ≤ 1048576 := by omega
  have t1 : (t : Int) ≤ 1099507433471 := by omega
  have q1 : (q : Int) ≤ 2097151 := by omega
  have m1 : (1 : Int) ≤ m := by omega
  have m2 : (m : Int) ≤ 1048576 := by omega
  have c0 : 0 ≤ x0 % 1048576 := by omega
  have c2 : 0 ≤ x3 % 1048576 := by omega
  have c3 : x0 % 1048576 ≤ 1048575 := by omega
  have c4 : x3 % 1048576 ≤ 1048575 := by omega
  have G := Lib.hid (YO.grant (x := n) (now := t) ⟨n1, n2⟩ ⟨by omega, by omega⟩ (by omega))
  have hA : (t : Int) + q ≤ 1099509530622 := by omega
  have HY : Hid (((t : Int) + n).toNat = t + n ∧ ((t : Int) + q + m).toNat = t + q + m) := ⟨by omega, by omega⟩
  have TA : Hid (IsTime ((t : Int) + q)) := ⟨by omega, by omega⟩
  have TM : Hid (IsTime (1099511627776 : Int)) := ⟨by omega, by omega⟩
  have RG : Hid (RgO 3 0 1) := ⟨by omega, by omega, by omega, by omega, by omega, by omega⟩
  have SM : Hid (IsSpan (m : Int)) := ⟨m1, m2⟩
  by_cases hov : (t : Int) + n ≤ (t : Int) + q
  · have HE : Hid ((YO (t + n)).rE 3 0 1 m ((t : Int) + q) = 8) := by unfold Hid; rw [YO.rE _ SM.out TA.out, if_pos (by omega)]
    have HO : Hid ((YO (t + n)).ovr 3 0 1 ((t : Int) + q) = true) := by unfold Hid; rw [YO.ovr _ TA.out]; simp; omega
    have HP : Hid ((YO (t + n)).ovr 3 0 1 1099511627776 = true) := by unfold Hid; rw [YO.ovr _ TM.out]; simp; omega
    go_enter Try.func6, Try.ntmps6
    go_wp2_with fail
    refine (dnew_ok 1 1 _ (by decide) (by decide) (by decide) (by decide)).mono ?_
    rintro e w1 ⟨b, rfl, hf⟩
    obtain ⟨k, a, hs⟩ := DSt.new hf
    have S := Lib.hid hs
    clear hf hs
    go_wp2_with fail
    refine (grant_s n t 3 0 1 0 S.out (by rw [G.out.2.1]; rfl) (by rw [G.out.2.2.1]; rfl) (by rw [G.out.2.2.2.1]; rfl) G.out.1).mono ?_
    rintro e w2 ⟨rfl, S1, K1⟩
    have S2 : Hid (DSt w w2 b k a (YO (t + n))) := by have := S1.out; rw [G.out.2.2.2.2, HY.out.1] at this; exact this
    clear S S1 K1 G
    have S3 : Hid (DSt w (w2.alloc (.cells #[.int .i64 3, .int .i64 0, .int .u32 1] 33)) b k a (YO (t + n))) := S2.out.quiet (bal _ _)
    have OA := Lib.hid (Bk.new w2 33 #[.int .i64 3, .int .i64 0, .int .u32 1])
    obtain ⟨a0, a1, a2, a3⟩ := ob_cells OA.out
    clear S2
    go_wp2_with fail
    refine (over_s 3 0 1 ((t : Int) + q) 0 true S3.out RG.out HO.out (YO.oE _ TA.out)).mono ?_
    rintro e w3 ⟨rfl, S4, B4⟩
    have OB := Lib.hid (OA.out.below B4.out)
    clear a0 a1 a2 a3 OA S3 B4
    obtain ⟨a0, a1, a2, a3⟩ := ob_cells OB.out
    go_wp2_with fail
    refine (renew_s 3 0 1 m ((t : Int) + q) 8 S4.out RG.out HE.out).mono ?_
    rintro e w4 ⟨rfl, S5, K5⟩
    have S6 : Hid (DSt w w4 b k a (YO (t + n))) := by have := S5.out; rw [Dk.renew_ne (by rw [HE.out]; decide)] at this; exact this
    have OA := Lib.hid (S4.out.box OB.out K5.out)
    clear a0 a1 a2 a3 OB S4 S5 K5
    obtain ⟨a0, a1, a2, a3⟩ := ob_cells OA.out
    go_wp2_with fail
    refine (until_s 3 0 1 ((t : Int) + n) 0 S6.out RG.out (by rw [YO.til]; simp) (YO.chk _)).mono ?_
    rintro e w5 ⟨rfl, S7, B7⟩
    have OB := Lib.hid (OA.out.below B7.out)
    clear a0 a1 a2 a3 OA S6 B7
    obtain ⟨a0, a1, a2, a3⟩ := ob_cells OB.out
    go_wp2_with fail
    refine (over_s 3 0 1 1099511627776 0 true S7.out RG.out HP.out (YO.oE _ TM.out)).mono ?_
    rintro e w6 ⟨rfl, S8, B8⟩
    have OA := Lib.hid (OB.out.below B8.out)
    clear a0 a1 a2 a3 OB S7 B8
    obtain ⟨a0, a1, a2, a3⟩ := ob_cells OA.out
    go_wp2_with fail
    refine (ret_s 3 0 1 0 S8.out RG.out (YO.chk _)).mono ?_
    rintro e w7 ⟨rfl, S9, _⟩
    have HB := Lib.hid S9.out.bel
    clear a0 a1 a2 a3 OA S8 S9
    go_wp2_with (go_at_call 10; refine (works_ok _).mono ?_; rintro e w8 ⟨rfl, hb⟩; have H9 := Lib.hid (bel2 HB.out hb); clear hb)
    go_ret
    exact ⟨rfl, H9.out⟩
  · have HE : Hid ((YO (t + n)).rE 3 0 1 m ((t : Int) + q) = 0) := by unfold Hid; rw [YO.rE _ SM.out TA.out, if_neg (by omega), if_pos (by omega)]
    have HO : Hid ((YO (t + n)).ovr 3 0 1 ((t : Int) + q) = false) := by unfold Hid; rw [YO.ovr _ TA.out]; simp; omega
    have hov2 : (t : Int) + q < t + n := by omega
    clear hov
    go_enter Try.func6, Try.ntmps6
    go_wp2_with fail
    refine (dnew_ok 1 1 _ (by decide) (by decide) (by decide) (by decide)).mono ?_
    rintro e w1 ⟨b, rfl, hf⟩
    obtain ⟨k, a, hs⟩ := DSt.new hf
    have S := Lib.hid hs
    clear hf hs
    go_wp2_with fail
    refine (grant_s n t 3 0 1 0 S.out (by rw [G.out.2.1]; rfl) (by rw [G.out.2.2.1]; rfl) (by rw [G.out.2.2.2.1]; rfl) G.out.1).mono ?_
    rintro e w2 ⟨rfl, S1, K1⟩
    have S2 : Hid (DSt w w2 b k a (YO (t + n))) := by have := S1.out; rw [G.out.2.2.2.2, HY.out.1] at this; exact this
    clear S S1 K1 G
    have S3 : Hid (DSt w (w2.alloc (.cells #[.int .i64 3, .int .i64 0, .int .u32 1] 33)) b k a (YO (t + n))) := S2.out.quiet (bal _ _)
    have OA := Lib.hid (Bk.new w2 33 #[.int .i64 3, .int .i64 0, .int .u32 1])
    obtain ⟨a0, a1, a2, a3⟩ := ob_cells OA.out
    clear S2
    go_wp2_with fail
    refine (over_s 3 0 1 ((t : Int) + q) 0 false S3.out RG.out HO.out (YO.oE _ TA.out)).mono ?_
    rintro e w3 ⟨rfl, S4, B4⟩
    have OB := Lib.hid (OA.out.below B4.out)
    clear a0 a1 a2 a3 OA S3 B4
    obtain ⟨a0, a1, a2, a3⟩ := ob_cells OB.out
    go_wp2_with fail
    refine (renew_s 3 0 1 m ((t : Int) + q) 0 S4.out RG.out HE.out).mono ?_
    rintro e w4 ⟨rfl, S5, K5⟩
    have S6 : Hid (DSt w w4 b k a (YO (t + q + m))) := by have := S5.out; rw [YO.renew _ HE.out, HY.out.2] at this; exact this
    have OA := Lib.hid (S4.out.box OB.out K5.out)
    clear a0 a1 a2 a3 OB S4 S5 K5
    obtain ⟨a0, a1, a2, a3⟩ := ob_cells OA.out
    go_wp2_with fail
    refine (until_s 3 0 1 ((t : Int) + q + m) 0 S6.out RG.out (by rw [YO.til]; simp) (YO.chk _)).mono ?_
    rintro e w5 ⟨rfl, S7, _⟩
    have HB := Lib.hid S7.out.bel
    clear a0 a1 a2 a3 OA S6 S7
    go_wp2_with (go_at_call 10; refine (works_ok _).mono ?_; rintro e w8 ⟨rfl, hb⟩; have H9 := Lib.hid (bel2 HB.out hb); clear hb)
    go_ret
    exact ⟨rfl, H9.out⟩
end Go.Proofs.Ytfemfgpciogbeaa
