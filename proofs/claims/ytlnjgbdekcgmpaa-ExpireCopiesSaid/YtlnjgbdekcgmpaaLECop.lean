/- ExpireCopies: what happens to a copy does not change the queue, and the other way round. -/
import Derived.Test.YtlnjgbdekcgmpaaEx
namespace Go.Proofs.Ytlnjgbdekcgmpaa
open Go.RowKit

theorem rest_len (L : List En) (now : Int) : (due L now).length + (rest L now).length = L.length := len_split _ L

set_option maxHeartbeats 4000000 in
theorem eCop_walk (a : Option Addr) (n c : Nat) (l : List Int) (now id : Int) (w : World) (h : U8 w a n l) (hc : n ≤ c) (hcm : c ≤ 9223372036854775807) (hn0 : 0 ≤ now) (hn1 : now ≤ 255) (hi0 : -9223372036854775808 ≤ id) (hi1 : id ≤ 9223372036854775807) :
    Calls Try.prog 9 #[.slice a n c, .int .u8 now, .int .i64 id] w fun e w' => e = .returned (.bool true) ∧ Below w.heap.size w w' := by
  have H := Lib.hid h
  have hid : I64 id := ⟨hi0, hi1⟩
  by_cases hn : n ≤ 60
  · have F1 : Hid (∀ W, Below w.heap.size w W → Calls Try.prog 29 #[.slice a n c] W fun e w' => ∃ b, e = .returned (.pointer (some ⟨b, 0, none⟩)) ∧ Own W w' b (fl l n)) := fun W hB => filled_ok w a n c l W hB (h.below hB) hc hcm hn
    have hl : (fl l n).length = n := fl_len l n
    have C1 : Hid (∀ W b, Own w W b (fl l n) → Calls Try.prog 21 #[.pointer (some ⟨b, 0, none⟩)] W fun e w' => ∃ c, e = .returned (.pointer (some ⟨c, 0, none⟩)) ∧ Two w w' b c (fl l n) (fl l n)) := fun W b h => own_copy h
    obtain ⟨d, hd⟩ : ∃ d, (due (fl l n) now).length = d := ⟨_, rfl⟩
    have hr := rest_len (fl l n) now
    rw [hd, hl] at hr
    have D1 : Hid (∀ W b c, Two w W b c (fl l n) (fl l n) → Calls Try.prog 19 #[.pointer (some ⟨b, 0, none⟩), .int .i64 now] W fun e w' => ∃ a c', e = .returned (.slice a d c') ∧ d ≤ c' ∧ c' ≤ 9223372036854775807 ∧ Two w w' b c (rest (fl l n) now) (fl l n)) := fun W b c h => (two_due h now).mono fun e w' ⟨a, c', h1, h2, h3, h4, _⟩ => by
      rw [hd] at h1 h2
      exact ⟨a, c', h1, h2, h3, h4⟩
    have L1 : Hid (∀ W b c, Two w W b c (rest (fl l n) now) (fl l n) → Calls Try.prog 27 #[.pointer (some ⟨c, 0, none⟩)] W fun e w' => e = .returned (.int .i64 n) ∧ W = w') := fun W b c h => by have := two_len h.swap; rw [hl] at this; exact this
    have hrl : (rest (fl l n) now).length = n - d := by omega
    have L2 : Hid (∀ W b c, Two w W b c (rest (fl l n) now) (fl l n) → Calls Try.prog 27 #[.pointer (some ⟨b, 0, none⟩)] W fun e w' => e = .returned (.int .i64 ((n : Int) - d)) ∧ W = w') := fun W b c h => by
      have := two_len h
      rw [hrl, show ((n - d : Nat) : Int) = (n : Int) - d by omega] at this
      exact this
    have S1 : Hid (∀ W b c, Two w W b c (rest (fl l n) now) (fl l n) → Calls Try.prog 14 #[.pointer (some ⟨c, 0, none⟩), .int .i64 id, .int .i64 5] W fun e w' => e = .returned (.int .i64 0) ∧ Two w w' b c (rest (fl l n) now) (setL (fl l n) id 5)) := fun W b c h => by
      have := two_set h.swap hid 5
      rw [setE_ok (by decide) (by decide) (by omega)] at this
      exact this.mono fun e w' ⟨h1, h2⟩ => ⟨h1, h2.swap⟩
    obtain ⟨t, ht⟩ : ∃ t, (tm (rest (fl l n) now) id).getD 0 = t := ⟨_, rfl⟩
    obtain ⟨r, hr2⟩ : ∃ r, (tm (rest (fl l n) now) id).isSome = r := ⟨_, rfl⟩
    have W1 : Hid (∀ W0 W b, Own W0 W b (rest (fl l n) now) → Calls Try.prog 25 #[.pointer (some ⟨b, 0, none⟩), .int .i64 id] W fun e w' => e = .returned (.tuple #[.int .i64 t, .bool r]) ∧ W = w') := fun W0 W b h => by
      have := own_when h hid
      rw [ht, hr2] at this
      exact this
    have D2 : Hid (∀ W0 W b, Own W0 W b (fl l n) → Calls Try.prog 19 #[.pointer (some ⟨b, 0, none⟩), .int .i64 now] W fun e w' => ∃ a c', e = .returned (.slice a d c') ∧ Own W0 w' b (rest (fl l n) now)) := fun W0 W b h => (own_due h now).mono fun e w' ⟨a, c', h1, h2, h3, h4, _⟩ => by
      rw [hd] at h1
      exact ⟨a, c', h1, h4⟩
    have hdn : d ≤ n := by omega
    generalize fl l n = L at *
    generalize rest L now = R at *
    generalize setL L id 5 = S at *
    have hrr : (r == r) = true := by simp
    clear h hl hr hd hrl ht hr2 hid
    go_enter Try.func9, Try.ntmps9
    go_wp2_with (first
      | (go_at_call 29; (with_reducible refine (F1.out _ (Below.refl _ _)).mono ?_); rintro e w1 ⟨b, rfl, ho⟩; have HO := Lib.hid ho; clear ho)
      | (go_at_call 21; (refine (C1.out _ _ HO.out).mono ?_); rintro e w2 ⟨q, rfl, ht⟩; have HT := Lib.hid ht; clear ht)
      | (go_at_call 19; (with_reducible refine (D1.out _ _ _ HT.out).mono ?_); rintro e w3 ⟨a3, c3, rfl, hd1, hd2, ht⟩; have HT := Lib.hid ht; clear ht HO)
      | (go_at_call 27; (with_reducible refine (L1.out _ _ _ HT.out).mono ?_); rintro e w4 ⟨rfl, rfl⟩)
      | (go_at_call 27; (with_reducible refine (L2.out _ _ _ HT.out).mono ?_); rintro e w4 ⟨rfl, rfl⟩)
      | (go_at_call 14; (with_reducible refine (S1.out _ _ _ HT.out).mono ?_); rintro e w5 ⟨rfl, ht⟩; have HT := Lib.hid ht; clear ht)
      | (go_at_call 25; (with_reducible refine (W1.out _ _ _ HT.out.one).mono ?_); rintro e w6 ⟨rfl, rfl⟩)
      | (go_at_call 29; (with_reducible refine (F1.out _ HT.out.bel).mono ?_); rintro e w7 ⟨b7, rfl, ho⟩; have HO := Lib.hid ho; clear ho)
      | (go_at_call 19; (with_reducible refine (D2.out _ _ _ HO.out).mono ?_); rintro e w8 ⟨a8, c8, rfl, ho⟩; have HO := Lib.hid ho; clear ho)
      | (go_at_call 25; (with_reducible refine (W1.out _ _ _ HO.out).mono ?_); rintro e w9 ⟨rfl, rfl⟩)
      | (go_at_call 11; refine (works_ok _).mono ?_; rintro e w10 ⟨rfl, hb⟩; have HW := Lib.hid ((HT.out.bel.trans (HO.out.bel.mono HT.out.bel.size)).trans (hb.mono (HT.out.bel.trans (HO.out.bel.mono HT.out.bel.size)).size)); clear hb))
    go_ret
    exact ⟨rfl, HW.out⟩
  · clear h
    go_enter Try.func9, Try.ntmps9
    go_wp2_with (go_at_call 11; refine (works_ok _).mono ?_; rintro e w2 ⟨rfl, hb⟩; have HW := Lib.hid hb; clear hb)
    go_ret
    exact ⟨rfl, HW.out⟩
end Go.Proofs.Ytlnjgbdekcgmpaa
