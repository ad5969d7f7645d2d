/- The walk of the statement SlotsKnown: it returns true. -/
import Derived.Test.YtgdboppdncoieaaSx
namespace Go.Proofs.Ytgdboppdncoieaa
open Go.RowKit

/-- A table whose first k slots are taken, in their first generation. -/
def tk (n g k : Nat) : Tb := ⟨n, fun i => if i < k then 1 else 0, fun i => if i < n then g else 0⟩
theorem tk_free {n g k : Nat} (h : k < n) : ∃ r, (tk n g k).free = k :: r := by
  refine ⟨selFrom (tk n g k).s 0 (k + 1) n, ?_⟩
  have key : ∀ d j, j + d = k → selFrom (tk n g k).s 0 j n = k :: selFrom (tk n g k).s 0 (k + 1) n := by
    intro d
    induction d with
    | zero =>
      intro j hj
      obtain rfl : j = k := by omega
      rw [selFrom_step _ _ h]
      simp [tk]
    | succ d ih =>
      intro j hj
      rw [selFrom_step _ _ (by omega : j < n), ih (j + 1) (by omega)]
      have : ¬ (tk n g k).s j = 0 := by simp [tk]; omega
      rw [if_neg this]; rfl
  show sel (tk n g k).s 0 n = _
  rw [← selFrom_zero]
  exact key k 0 (by omega)
theorem tk_full (n g : Nat) : (tk n g n).free = [] := by
  show sel (tk n g n).s 0 n = []
  unfold sel
  rw [List.filter_eq_nil_iff]
  intro i hi
  have := List.mem_range.1 hi
  simp [tk, this]
theorem tk_take {n g k : Nat} (h : k < n) : (tk n g k).tI = k ∧ (tk n g k).tG = g ∧ (tk n g k).tE = 0 ∧ (tk n g k).take = tk n g (k + 1) := by
  obtain ⟨r, hr⟩ := tk_free (g := g) h
  refine ⟨by simp [Tb.tI, hr], by simp [Tb.tG, hr]; simp [tk, h], by simp [Tb.tE, hr], ?_⟩
  have e : (tk n g k).take = (tk n g k).took k := by unfold Tb.take; rw [hr]
  have e2 : put (tk n g k).s k 1 = (tk n g (k + 1)).s := by
    funext i
    simp only [put, tk]
    by_cases e : i = k
    · subst e; simp
    · rw [if_neg e]
      by_cases h2 : i < k
      · rw [if_pos h2, if_pos (by omega)]
      · rw [if_neg h2, if_neg (by omega)]
  rw [e]
  unfold Tb.took
  rw [e2]; rfl
theorem tk_done (n g : Nat) : (tk n g n).tI = 0 ∧ (tk n g n).tG = 0 ∧ (tk n g n).tE = 4 ∧ (tk n g n).take = tk n g n := by
  have hr := tk_full n g
  exact ⟨by simp [Tb.tI, hr], by simp [Tb.tG, hr], by simp [Tb.tE, hr], by unfold Tb.take; rw [hr]⟩
theorem tk_zero (n g : Nat) : fresh n g = tk n g 0 := by simp [fresh, tk]
def U0 : Tb := fresh 1 4294967295
def U1 : Tb := U0.take
def U2 : Tb := U1.given 0 4294967295

set_option maxRecDepth 100000 in
set_option maxHeartbeats 4000000 in
theorem known_walk (w : World) : Calls Try.prog 10 #[] w fun e w' => e = .returned (.bool true) ∧ Below w.heap.size w w' := by
  go_enter Try.func10, Try.ntmps10
  go_wp2_with fail
  refine (new_arg1 0 1 _ (by omega)).mono ?_
  rintro e w' ⟨rfl, rfl⟩
  go_wp2_with fail
  refine (new_arg1 257 1 _ (by omega)).mono ?_
  rintro e w' ⟨rfl, rfl⟩
  go_wp2_with fail
  refine (new_arg2 1 _ (by omega) (by omega)).mono ?_
  rintro e w' ⟨rfl, rfl⟩
  go_wp2_with fail
  refine (new_ok 256 1 _ (by decide) (by decide) (by decide) (by decide)).mono ?_
  rintro e w1 ⟨rfl, ht, hb⟩
  have S1 : Hid (WSt w w1 w.heap.size (tk 256 1 0)) := ⟨by rw [← tk_zero]; exact ht, hb, Nat.le_refl _⟩
  clear ht hb
  obtain ⟨b, hb⟩ : ∃ b, w.heap.size = b := ⟨_, rfl⟩
  rw [hb] at S1
  rw [hb]
  have HB := Lib.hid hb
  clear hb
  go_wp2
  go_loopw [9] (fun i wr => ∃ k : Nat, k ≤ 256 ∧ i = .int .i64 k ∧ Hid (WSt w wr b (tk 256 1 k))) (fun i _ => 256 - (intOf i).toNat)
  case atStart => exact ⟨0, by decide, rfl, S1.out⟩
  case round =>
    obtain ⟨k, hk, rfl, HS⟩ := hrel
    by_cases hlt : k < 256
    · obtain ⟨e1, e2, e3, e4⟩ := tk_take (g := 1) hlt
      have E4 := Lib.hid e4
      have HT := Lib.hid (take_s b _ k 1 0 wr HS.out.t e1 e2 e3)
      clear e1 e2 e3 e4
      go_wp2_with fail
      refine HT.out.mono ?_
      rintro e w3 ⟨rfl, ht, hk3⟩
      rw [E4.out] at ht
      have hkk : ((k : Int) != (k : Int)) = false := by simp
      have HS3 := Lib.hid ((HS.out.step hk3 ht).quiet ((Below.refl _ w3).alloc (Nat.le_refl _) (.cells #[.int .i64 k, .int .u32 1] 33)))
      clear ht hk3
      go_wp2
      go_roundw
      case rel => exact ⟨k + 1, by omega, by go_num, HS3.out⟩
      case measure => simp [intOf]; omega
    · obtain rfl : k = 256 := by omega
      obtain ⟨e1, e2, e3, e4⟩ := tk_done 256 1
      have E4 := Lib.hid e4
      have HT := Lib.hid (take_s b _ 0 0 4 wr HS.out.t e1 e2 e3)
      clear e1 e2 e3 e4
      go_wp2_with fail
      refine HT.out.mono ?_
      rintro e w3 ⟨rfl, ht, hk3⟩
      rw [E4.out] at ht
      have hal : Below w3.heap.size w3 (w3.alloc (.cells #[.int .i64 0, .int .u32 0] 33)) := (Below.refl _ w3).alloc (Nat.le_refl _) _
      have HS3 := Lib.hid (HS.out.step hk3 ht)
      clear ht hk3 hal HS HT
      have f1 : (tk 256 1 256).gen 256 = 0 := rfl
      have f2 : (tk 256 1 256).genE 256 = 3 := rfl
      have f3 : (tk 256 1 256).gen (-1) = 0 := rfl
      have f4 : (tk 256 1 256).genE (-1) = 3 := rfl
      have f5 : (tk 256 1 256).chk 256 1 = 3 := rfl
      have f6 : (tk 256 1 256).chk 5 0 = 7 := rfl
      have HF := Lib.hid (And.intro f1 (And.intro f2 (And.intro f3 (And.intro f4 (And.intro f5 f6)))))
      clear f1 f2 f3 f4 f5 f6
      generalize tk 256 1 256 = T at *
      have HS4 := Lib.hid (HS3.out.quiet ((Below.refl _ w3).alloc (Nat.le_refl _) (.cells #[.int .i64 0, .int .u32 0] 33)))
      clear HS3
      go_wp2_with fail
      generalize w3.heap.size = A at *
      generalize w3.alloc (.cells #[.int .i64 0, .int .u32 0] 33) = w4 at *
      refine (gen_any b T 256 _ HS4.out.t).mono ?_
      rw [HF.out.1, HF.out.2.1]
      rintro e w' ⟨rfl, rfl⟩
      go_wp2_with fail
      refine (gen_any b T (-1) _ HS4.out.t).mono ?_
      rw [HF.out.2.2.1, HF.out.2.2.2.1]
      rintro e w' ⟨rfl, rfl⟩
      go_wp2_with fail
      refine (new_ok 1 4294967295 _ (by decide) (by decide) (by decide) (by decide)).mono ?_
      rintro e w5 ⟨rfl, ht, hb⟩
      have HS5 := Lib.hid (HS4.out.quiet hb)
      have HU5 : Hid (WSt w w5 w4.heap.size U0) := ⟨ht, bel2 HS4.out.bel hb, HS4.out.bel.size⟩
      have HN : Hid (b ≠ w4.heap.size) := by have := HS4.out.t.bt; unfold Hid; omega
      clear ht hb HS4
      generalize w4.heap.size = b2 at *
      go_wp2_with fail
      refine (take_s b2 U0 0 4294967295 0 _ HU5.out.t rfl rfl rfl).mono ?_
      rintro e w6 ⟨rfl, ht, hk⟩
      have hal : Below w6.heap.size w6 (w6.alloc (.cells #[.int .i64 0, .int .u32 4294967295] 33)) := (Below.refl _ w6).alloc (Nat.le_refl _) _
      have HU6 := Lib.hid ((HU5.out.step hk ht).quiet hal)
      have HT6 : Hid (TabW (w6.alloc (.cells #[.int .i64 0, .int .u32 4294967295] 33)) b T) := (HS5.out.t.kept hk HN.out).below hal
      have A6 := Lib.hid (Bk.new w6 33 #[.int .i64 0, .int .u32 4294967295])
      have N6 : Hid (w6.heap.size ≠ b2) := by have := (HU5.out.step hk ht).t.bt; unfold Hid; omega
      clear ht hk hal HU5 HS5
      go_wp2_with fail
      generalize w6.heap.size = B at *
      generalize w6.alloc (.cells #[.int .i64 0, .int .u32 4294967295] 33) = w7 at *
      refine (give_s b2 U1 0 4294967295 0 _ HU6.out.t rfl).mono ?_
      rintro e w8 ⟨rfl, ht, hk⟩
      have HU8 : Hid (WSt w w8 b2 U2) := HU6.out.step hk ht
      have HT8 := Lib.hid (HT6.out.kept hk HN.out)
      have A8 := Lib.hid (A6.out.kept hk N6.out)
      clear ht hk HU6 HT6 A6
      go_wp2_with fail
      refine (retired_ok b2 U2 _ HU8.out.t).mono ?_
      have e1 : U2.gone.length = 1 := rfl
      rw [e1]
      clear e1
      rintro e w9 ⟨rfl, hb9⟩
      have HU9 := Lib.hid (HU8.out.quiet hb9)
      have HT9 := Lib.hid (HT8.out.below hb9)
      have a0 : w9.cell? ⟨B, 0, none⟩ = some (.int .i64 0) := (A8.out.below hb9).cell 0
      have a1 : w9.cell? ⟨B, 1, none⟩ = some (.int .u32 4294967295) := (A8.out.below hb9).cell 1
      clear hb9 HU8 HT8 A8
      go_wp2_with fail
      clear a0 a1
      refine (check_s b2 U2 0 4294967295 7 _ HU9.out.t rfl).mono ?_
      rintro e w10 ⟨rfl, hb10⟩
      have HU10 := Lib.hid (HU9.out.quiet hb10)
      have HT10 := Lib.hid (HT9.out.below hb10)
      clear hb10 HU9 HT9
      go_wp2_with fail
      refine (give_s b T 256 1 3 _ HT10.out HF.out.2.2.2.2.1).mono ?_
      rintro e w11 ⟨rfl, ht, hk⟩
      rw [show T.given 256 1 = T by unfold Tb.given; rw [HF.out.2.2.2.2.1]; rfl] at ht
      have HT11 := Lib.hid ht
      have HB11 : Hid (Below w.heap.size w w11) := HU10.out.bel.trans (hk.below HU10.out.bel.size (fun i e => by have := HB.out; omega))
      clear ht hk HT10 HU10
      go_wp2_with fail
      refine (give_s b T 5 0 7 _ HT11.out HF.out.2.2.2.2.2).mono ?_
      rintro e w12 ⟨rfl, ht, hk⟩
      have HB12 : Hid (Below w.heap.size w w12) := HB11.out.trans (hk.below HB11.out.size (fun i e => by have := HB.out; omega))
      clear ht hk HT11 HB11
      go_wp2_with fail
      refine (works_ok _).mono ?_
      rintro e w13 ⟨rfl, hb13⟩
      go_wp2
      go_ret
      exact ⟨rfl, bel2 HB12.out hb13⟩
end Go.Proofs.Ytgdboppdncoieaa
