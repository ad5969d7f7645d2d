/- ExpireKnown: the limits, and errors in their order. -/
import Derived.Test.YtlnjgbdekcgmpaaEw
namespace Go.Proofs.Ytlnjgbdekcgmpaa
open Go.RowKit

/-- The ids 0, -1, -2 and so on, all with the last time. -/
def KL : Nat → List En
  | 0 => []
  | i + 1 => (-(i : Int), 1099511627776) :: KL i
theorem mem_KL {i : Nat} {e : En} (h : e ∈ KL i) : ∃ j : Nat, j < i ∧ e = (-(j : Int), 1099511627776) := by
  induction i with
  | zero => cases h
  | succ i ih =>
    rcases List.mem_cons.1 h with rfl | h
    · exact ⟨i, by omega, rfl⟩
    · obtain ⟨j, h1, h2⟩ := ih h
      exact ⟨j, by omega, h2⟩
theorem KL_len (i : Nat) : (KL i).length = i := by
  induction i with
  | zero => rfl
  | succ i ih => simp [KL, ih]
theorem KL_new (i : Nat) : tm (KL i) (-(i : Int)) = none := by
  rw [tm_none, mem_ids]
  rintro ⟨t, h⟩
  obtain ⟨j, h1, h2⟩ := mem_KL h
  have := congrArg Prod.fst h2
  simp only at this
  omega
theorem KL_setE {i : Nat} (h : i < 256) : setE (KL i) (-(i : Int)) 1099511627776 = 0 := by
  unfold setE
  rw [if_neg (by omega), if_neg (by rw [KL_len]; omega)]
theorem KL_setL {i : Nat} (h : i < 256) : setL (KL i) (-(i : Int)) 1099511627776 = KL (i + 1) := by
  unfold setL
  rw [if_pos (KL_setE h)]
  unfold set
  rw [del_none (KL_new i)]
  unfold ins
  have e1 : (KL i).filter (fun e => lt e (-(i : Int), 1099511627776)) = [] := by
    rw [List.filter_eq_nil_iff]
    intro e he
    obtain ⟨j, h1, rfl⟩ := mem_KL he
    rw [lt_iff]; simp only; omega
  have e2 : (KL i).filter (fun e => !lt e (-(i : Int), 1099511627776)) = KL i := by
    rw [List.filter_eq_self]
    intro e he
    obtain ⟨j, h1, rfl⟩ := mem_KL he
    have : ¬ lt (-(j : Int), 1099511627776) (-(i : Int), 1099511627776) = true := by rw [lt_iff]; simp only; omega
    simpa using this
  rw [e1, e2]
  rfl
/-- What is left then. -/
def KM : List En := del (KL 256) 0
theorem k1 : setE (KL 256) 1 5 = 4 ∧ setL (KL 256) 1 5 = KL 256 := by decide +kernel
theorem k2 : setE (KL 256) 1 (-1) = 2 ∧ setL (KL 256) 1 (-1) = KL 256 := by decide +kernel
theorem k3 : setE (KL 256) 1 1099511627777 = 2 ∧ setL (KL 256) 1 1099511627777 = KL 256 := by decide +kernel
theorem k4 : setE (KL 256) 0 0 = 0 ∧ setL (KL 256) 0 0 = (0, 0) :: KM := by decide +kernel
theorem k5 : due ((0, 0) :: KM) (-1) = [] ∧ rest ((0, 0) :: KM) (-1) = (0, 0) :: KM := by decide +kernel
theorem k6 : due ((0, 0) :: KM) 0 = [(0, 0)] ∧ rest ((0, 0) :: KM) 0 = KM := by decide +kernel
theorem k7 : (due KM 9223372036854775807).length = 255 ∧ rest KM 9223372036854775807 = [] ∧ (ids (due KM 9223372036854775807))[0]? = some (-255) ∧ (ids (due KM 9223372036854775807))[254]? = some (-1) := by decide +kernel

set_option maxHeartbeats 4000000 in
set_option maxRecDepth 1000000 in
theorem eKno_walk (w : World) : Calls Try.prog 10 #[] w fun e w' => e = .returned (.bool true) ∧ Below w.heap.size w w' := by
  have i0 : I64 0 := by unfold I64; decide
  have i1 : I64 1 := by unfold I64; decide
  have N0 := Lib.hid (fun W hB => own_made w W hB)
  have S0 : Hid (∀ W b (i : Nat), i < 256 → Own w W b (KL i) → Calls Try.prog 14 #[.pointer (some ⟨b, 0, none⟩), .int .i64 (-(i : Int)), .int .i64 1099511627776] W fun e w' => e = .returned (.int .i64 0) ∧ Own w w' b (KL (i + 1))) := fun W b i hi h => by
    have := own_set h (i := -(i : Int)) ⟨by omega, by omega⟩ 1099511627776
    rw [KL_setE hi, KL_setL hi] at this
    exact this
  have S1 : Hid (∀ W b, Own w W b (KL 256) → Calls Try.prog 14 #[.pointer (some ⟨b, 0, none⟩), .int .i64 1, .int .i64 5] W fun e w' => e = .returned (.int .i64 4) ∧ Own w w' b (KL 256)) := fun W b h => by
    have := own_set h i1 5
    rw [k1.1, k1.2] at this
    exact this
  have S2 : Hid (∀ W b, Own w W b (KL 256) → Calls Try.prog 14 #[.pointer (some ⟨b, 0, none⟩), .int .i64 1, .int .i64 (-1)] W fun e w' => e = .returned (.int .i64 2) ∧ Own w w' b (KL 256)) := fun W b h => by
    have := own_set h i1 (-1)
    rw [k2.1, k2.2] at this
    exact this
  have S3 : Hid (∀ W b, Own w W b (KL 256) → Calls Try.prog 14 #[.pointer (some ⟨b, 0, none⟩), .int .i64 1, .int .i64 1099511627777] W fun e w' => e = .returned (.int .i64 2) ∧ Own w w' b (KL 256)) := fun W b h => by
    have := own_set h i1 1099511627777
    rw [k3.1, k3.2] at this
    exact this
  have S4 : Hid (∀ W b, Own w W b (KL 256) → Calls Try.prog 14 #[.pointer (some ⟨b, 0, none⟩), .int .i64 0, .int .i64 0] W fun e w' => e = .returned (.int .i64 0) ∧ Own w w' b ((0, 0) :: KM)) := fun W b h => by
    have := own_set h i0 0
    rw [k4.1, k4.2] at this
    exact this
  have D1 : Hid (∀ W b, Own w W b ((0, 0) :: KM) → Calls Try.prog 19 #[.pointer (some ⟨b, 0, none⟩), .int .i64 (-1)] W fun e w' => ∃ a c, e = .returned (.slice a 0 c) ∧ Own w w' b ((0, 0) :: KM)) := fun W b h => by
    have := own_due h (-1)
    rw [k5.1, k5.2] at this
    exact this.mono fun e w' ⟨a, c, h1, _, _, h2, h3⟩ => ⟨a, c, h1, h2⟩
  have X1 : Hid (∀ W b, Own w W b ((0, 0) :: KM) → Calls Try.prog 23 #[.pointer (some ⟨b, 0, none⟩)] W fun e w' => e = .returned (.tuple #[.int .i64 0, .int .i64 0, .bool true]) ∧ Own w w' b ((0, 0) :: KM)) := fun W b h => own_next h
  have D2 : Hid (∀ W b, Own w W b ((0, 0) :: KM) → Calls Try.prog 19 #[.pointer (some ⟨b, 0, none⟩), .int .i64 0] W fun e w' => ∃ a c, e = .returned (.slice a 1 c) ∧ Own w w' b KM) := fun W b h => by
    have := own_due h 0
    rw [k6.1, k6.2] at this
    exact this.mono fun e w' ⟨a, c, h1, _, _, h2, h3⟩ => ⟨a, c, h1, h2⟩
  have D3 : Hid (∀ W b, Own w W b KM → Calls Try.prog 19 #[.pointer (some ⟨b, 0, none⟩), .int .i64 9223372036854775807] W fun e w' => ∃ g off c, e = .returned (.slice (some ⟨g, off, none⟩) 255 c) ∧ 255 ≤ c ∧ c ≤ 9223372036854775807 ∧ Own w w' b [] ∧ w'.cell? ⟨g, off, none⟩ = some (.int .i64 (-255)) ∧ w'.cell? ⟨g, off + 254, none⟩ = some (.int .i64 (-1))) := fun W b h => by
    have := own_due h 9223372036854775807
    rw [k7.2.1] at this
    refine this.mono ?_
    rintro e w' ⟨a, c, rfl, h1, h2, h3, h4⟩
    obtain ⟨a', c', e0, _, _, _, h5⟩ := h4
    rw [ids_length] at e0
    injection e0 with e1 e2 e3
    subst e1 e3
    rw [k7.1] at h1 ⊢
    obtain ⟨g, off, rfl, hg, hc⟩ := h5 (by rw [ids_length, k7.1]; decide)
    exact ⟨g, off, c, rfl, h1, h2, h3, hc 0 _ k7.2.2.1, hc 254 _ k7.2.2.2⟩
  clear i0 i1
  go_enter Try.func10, Try.ntmps10
  go_wp2_with (go_at_call 12; refine (N0.out _ (Below.refl _ _)).mono ?_; rintro e w1 ⟨b, rfl, ho⟩; have HO := Lib.hid ho; clear ho)
  go_loopw [2] (fun s wr => ∃ i : Nat, i ≤ 256 ∧ s = .int .i64 i ∧ Hid (Own w wr b (KL i))) (fun s _ => 256 - (intOf s).toNat)
  case atStart => exact ⟨0, by omega, rfl, HO.out⟩
  case round =>
    obtain ⟨i, hi, rfl, HO2⟩ := hrel
    by_cases hlt : i < 256
    · go_wp2_with (go_at_call 14; refine (S0.out _ _ i hlt HO2.out).mono ?_; rintro e w2 ⟨rfl, ho⟩; have HO3 := Lib.hid ho; clear ho)
      go_roundw
      case rel => exact ⟨i + 1, by omega, by go_num, HO3.out⟩
      case measure => simp [intOf]; omega
    · obtain rfl : i = 256 := by omega
      clear HO S0 N0
      go_wp2_with (first
        | (go_at_call 14; (with_reducible refine (S1.out _ _ HO2.out).mono ?_); rintro e w2 ⟨rfl, ho⟩; have HO2 := Lib.hid ho; clear ho)
        | (go_at_call 14; (with_reducible refine (S2.out _ _ HO2.out).mono ?_); rintro e w3 ⟨rfl, ho⟩; have HO2 := Lib.hid ho; clear ho)
        | (go_at_call 14; (with_reducible refine (S3.out _ _ HO2.out).mono ?_); rintro e w4 ⟨rfl, ho⟩; have HO2 := Lib.hid ho; clear ho)
        | (go_at_call 14; (with_reducible refine (S4.out _ _ HO2.out).mono ?_); rintro e w5 ⟨rfl, ho⟩; have HO2 := Lib.hid ho; clear ho)
        | (go_at_call 19; (with_reducible refine (D1.out _ _ HO2.out).mono ?_); rintro e w6 ⟨a6, c6, rfl, ho⟩; have HO2 := Lib.hid ho; clear ho)
        | (go_at_call 23; (with_reducible refine (X1.out _ _ HO2.out).mono ?_); rintro e w7 ⟨rfl, ho⟩; have HO2 := Lib.hid ho; clear ho)
        | (go_at_call 19; (with_reducible refine (D2.out _ _ HO2.out).mono ?_); rintro e w8 ⟨a8, c8, rfl, ho⟩; have HO2 := Lib.hid ho; clear ho)
        | (go_at_call 19; (with_reducible refine (D3.out _ _ HO2.out).mono ?_); rintro e w9 ⟨g9, o9, c9, rfl, hc1, hc2, ho, hy0, hy1⟩; have HO2 := Lib.hid ho; clear ho)
        | (go_at_call 11; refine (works_ok _).mono ?_; rintro e w10 ⟨rfl, hb⟩; have HW := Lib.hid (HO2.out.bel.trans (hb.mono HO2.out.bel.size)); clear hb))
      go_ret
      exact ⟨rfl, HW.out⟩
end Go.Proofs.Ytlnjgbdekcgmpaa
