/- The contracts of colour's change, turn, Shade, Blacken, Born and Bleach. -/
import Derived.Test.YthcpmcdgojgdlaaCg
namespace Go.Proofs.Ythcpmcdgojgdlaa
open Go.RowKit

theorem change_inv (v : Option Addr) (i : Int) (f : Value) (w : World) (h : Inv w v) : Calls Try.prog 33 #[.pointer v, .int .i64 i, f] w fun e w' => e = .returned (.int .i64 1) ∧ w = w' := by
  have H := Lib.hid h
  clear h
  go_enter Try.func33, Try.ntmps33
  go_wp2_with (go_at_call 39; refine (check_inv _ _ _ H.out).mono ?_; rintro e w' ⟨rfl, rfl⟩)
  go_ret
  exact ⟨rfl, rfl⟩
theorem change_out (b : Nat) (P : Pt) (i : Int) (f : Value) (w : World) (h : PaW w b P) (hi : i < 0 ∨ (P.n : Int) ≤ i) : Calls Try.prog 33 #[.pointer (some ⟨b, 0, none⟩), .int .i64 i, f] w fun e w' => e = .returned (.int .i64 3) ∧ w = w' := by
  have H := Lib.hid (And.intro h hi)
  clear h hi
  go_enter Try.func33, Try.ntmps33
  go_wp2_with (go_at_call 39; refine (check_out _ _ _ _ H.out.1 H.out.2).mono ?_; rintro e w' ⟨rfl, rfl⟩)
  go_ret
  exact ⟨rfl, rfl⟩
/-- The two boxes of turn. -/
structure Bxs (w : World) (B C : Nat) (a v : Nat) : Prop where
  a : w.cell? ⟨B, 0, none⟩ = some (.int .i64 a)
  v : w.cell? ⟨C, 0, none⟩ = some (.int .i64 v)
theorem change_no (b B C : Nat) (P : Pt) (k a v : Nat) (w : World) (h : PaW w b P) (hk : k < P.n) (hB : Bxs w B C a v) (hne : P.c k ≠ a) :
    Calls Try.prog 33 #[.pointer (some ⟨b, 0, none⟩), .int .i64 k, .func (.func 41) #[] #[.pointer (some ⟨B, 0, none⟩), .pointer (some ⟨C, 0, none⟩)]] w fun e w' => e = .returned (.int .i64 8) ∧ Below w.heap.size w w' := by
  have H := Lib.hid h
  have hn := h.ok.hi
  have HC := Lib.hid (h.cs (i := k) (by omega))
  have HB := Lib.hid hB
  have HN := Lib.hid hne
  clear h hB hne
  go_enter Try.func33, Try.ntmps33
  go_wp2_with (first
    | (go_at_call 39; refine (check_in _ _ _ _ H.out hk).mono ?_; rintro e w' ⟨rfl, rfl⟩)
    | (go_at_call 41; refine (turn1_no _ _ _ C _ _ _ _ HC.out HB.out.a rfl (by have := HN.out; omega)).mono ?_; rintro e w1 ⟨rfl, hb⟩; have HW := Lib.hid hb; clear hb))
  go_ret
  exact ⟨rfl, HW.out⟩
theorem change_yes (b B C : Nat) (P : Pt) (k a v : Nat) (w : World) (h : PaW w b P) (hk : k < P.n) (hv : v ≤ 2) (hB : Bxs w B C a v) (he : P.c k = a) :
    Calls Try.prog 33 #[.pointer (some ⟨b, 0, none⟩), .int .i64 k, .func (.func 41) #[] #[.pointer (some ⟨B, 0, none⟩), .pointer (some ⟨C, 0, none⟩)]] w fun e w' => e = .returned (.int .i64 0) ∧ PaW w' b (P.set k v) ∧ Kept (· = b) w w' := by
  have H := Lib.hid h
  have hn := h.ok.hi
  have hc := h.cs (i := k) (by omega)
  rw [he] at hc
  have HC := Lib.hid hc
  have HB := Lib.hid hB
  clear h hB he hc
  go_enter Try.func33, Try.ntmps33
  go_wp2_with (first
    | (go_at_call 39; refine (check_in _ _ _ _ H.out hk).mono ?_; rintro e w' ⟨rfl, rfl⟩)
    | (go_at_call 41; refine (turn1_yes _ _ _ _ _ _ _ HC.out HB.out.a HB.out.v (H.out.fz _)).mono ?_; rintro e w1 ⟨rfl, q, hq⟩; have HW := Lib.hid hq; clear hq))
  go_ret
  have hw := HW.out
  refine ⟨rfl, ?_, ?_⟩
  · rw [hw]; exact (H.out.drewN q).put hk hv
  · rw [hw]; exact ((Kept.refl _ w).drewN q).put1 _ _
theorem change_bl (b : Nat) (P : Pt) (k : Nat) (w : World) (h : PaW w b P) (hk : k < P.n) :
    Calls Try.prog 33 #[.pointer (some ⟨b, 0, none⟩), .int .i64 k, .func (.func 34) #[] #[]] w fun e w' => e = .returned (.int .i64 0) ∧ PaW w' b (P.set k 0) ∧ Kept (· = b) w w' := by
  have H := Lib.hid h
  have hn := h.ok.hi
  have HC := Lib.hid (h.cs (i := k) (by omega))
  clear h
  go_enter Try.func33, Try.ntmps33
  go_wp2_with (first
    | (go_at_call 39; refine (check_in _ _ _ _ H.out hk).mono ?_; rintro e w' ⟨rfl, rfl⟩)
    | (go_at_call 34; refine (bleach1_ok _ _ _ _ HC.out (H.out.fz _)).mono ?_; rintro e w1 ⟨rfl, hq⟩; have HW := Lib.hid hq; clear hq))
  go_ret
  have hw := HW.out
  refine ⟨rfl, ?_, ?_⟩
  · rw [hw]; exact H.out.put hk (by decide)
  · rw [hw]; exact (Kept.refl _ w).put1 _ _

/-! ### turn -/
theorem turn_boxes (w : World) (a v : Nat) {w2 : World} (h : (w.alloc (.cells #[.int .i64 a] 3)).alloc (.cells #[.int .i64 v] 3) = w2) :
    Bxs w2 w.heap.size (w.heap.size + 1) a v ∧ Below w.heap.size w w2 := by
  subst h
  have b1 := (Bk.new w 3 #[.int .i64 a]).below (bel_new (w.alloc (.cells #[.int .i64 a] 3)) (.cells #[.int .i64 v] 3))
  have b2 := Bk.new (w.alloc (.cells #[.int .i64 a] 3)) 3 #[.int .i64 v]
  rw [World.size_alloc] at b2
  exact ⟨⟨b1.cell 0, b2.cell 0⟩, (bel_new w _).alloc (by simp) _⟩
theorem turn_inv (v : Option Addr) (i : Int) (x y : Nat) (w : World) (h : Inv w v) : Calls Try.prog 30 #[.pointer v, .int .i64 i, .int .i64 x, .int .i64 y] w fun e w' => e = .returned (.int .i64 1) ∧ Below w.heap.size w w' := by
  obtain ⟨w2, hw2⟩ : ∃ w2, (w.alloc (.cells #[.int .i64 x] 3)).alloc (.cells #[.int .i64 y] 3) = w2 := ⟨_, rfl⟩
  obtain ⟨_, hb⟩ := turn_boxes w x y hw2
  have HB := Lib.hid hb
  have HI := Lib.hid (h.below hb)
  have HW := Lib.hid hw2
  clear h hb hw2
  go_enter Try.func30, Try.ntmps30
  go_wp2_with fail
  rw [HW.out]
  refine (change_inv _ _ _ _ HI.out).mono ?_
  rintro e w' ⟨rfl, rfl⟩
  go_wp2
  go_ret
  exact ⟨rfl, HB.out⟩
theorem turn_ok (b : Nat) (P : Pt) (i : Int) (a v : Nat) (w : World) (h : PaW w b P) (hv : v ≤ 2) :
    Calls Try.prog 30 #[.pointer (some ⟨b, 0, none⟩), .int .i64 i, .int .i64 a, .int .i64 v] w fun e w' => e = .returned (.int .i64 (P.turnE i a)) ∧ PaW w' b (P.turn i a v) ∧ Kept (· = b) w w' := by
  obtain ⟨w2, hw2⟩ : ∃ w2, (w.alloc (.cells #[.int .i64 a] 3)).alloc (.cells #[.int .i64 v] 3) = w2 := ⟨_, rfl⟩
  obtain ⟨hx, hb⟩ := turn_boxes w a v hw2
  have key : Calls Try.prog 33 #[.pointer (some ⟨b, 0, none⟩), .int .i64 i, .func (.func 41) #[] #[.pointer (some ⟨w.heap.size, 0, none⟩), .pointer (some ⟨w.heap.size + 1, 0, none⟩)]] w2 fun e w' => e = .returned (.int .i64 (P.turnE i a)) ∧ PaW w' b (P.turn i a v) ∧ Kept (· = b) w2 w' := by
    unfold Pt.turnE Pt.turn
    by_cases hi : P.at_ i
    · obtain ⟨k, rfl⟩ : ∃ k : Nat, i = k := ⟨i.toNat, by unfold Pt.at_ at hi; omega⟩
      have hk := (P.at_nat k).1 hi
      rw [Int.toNat_natCast]
      by_cases he : P.c k = a
      · rw [if_pos hi, if_pos he, if_pos ⟨hi, he⟩]
        exact change_yes b _ _ P k a v w2 (h.below hb) hk hv hx he
      · rw [if_pos hi, if_neg he, if_neg (fun x => he x.2)]
        exact (change_no b _ _ P k a v w2 (h.below hb) hk hx he).mono fun e w' ⟨k1, k2⟩ => ⟨k1, (h.below hb).below k2, Kept.of_below k2⟩
    · rw [if_neg hi, if_neg (fun x => hi x.1)]
      refine (change_out b P i _ w2 (h.below hb) (by unfold Pt.at_ at hi; omega)).mono fun e w' ⟨k1, k2⟩ => ?_
      subst k2
      exact ⟨k1, h.below hb, Kept.refl _ _⟩
  have HK := Lib.hid key
  have HB := Lib.hid hb
  have HW := Lib.hid hw2
  clear h hb hw2 hx key
  go_enter Try.func30, Try.ntmps30
  go_wp2_with fail
  rw [HW.out]
  refine HK.out.mono ?_
  rintro e w3 ⟨rfl, h3, k3⟩
  have H3 := Lib.hid (And.intro h3 ((Kept.of_below HB.out).trans k3))
  clear h3 k3
  go_wp2
  go_ret
  exact ⟨rfl, H3.out⟩

/-! ### Blacken, Born, Shade, Bleach -/
theorem black_inv (v : Option Addr) (i : Int) (w : World) (h : Inv w v) : Calls Try.prog 14 #[.pointer v, .int .i64 i] w fun e w' => e = .returned (.int .i64 1) ∧ Below w.heap.size w w' := by
  have H := Lib.hid h
  clear h
  go_enter Try.func14, Try.ntmps14
  go_wp2_with (go_at_call 30; refine (turn_inv _ _ 1 2 _ H.out).mono ?_; rintro e w1 ⟨rfl, hb⟩; have HB := Lib.hid hb; clear hb)
  go_ret
  exact ⟨rfl, HB.out⟩
theorem black_ok (b : Nat) (P : Pt) (i : Int) (w : World) (h : PaW w b P) : Calls Try.prog 14 #[.pointer (some ⟨b, 0, none⟩), .int .i64 i] w fun e w' => e = .returned (.int .i64 (P.turnE i 1)) ∧ PaW w' b (P.turn i 1 2) ∧ Kept (· = b) w w' := by
  have H := Lib.hid (turn_ok b P i 1 2 w h (by decide))
  clear h
  generalize P.turnE i 1 = E at *
  go_enter Try.func14, Try.ntmps14
  go_wp2_with (go_at_call 30; refine H.out.mono ?_; rintro e w1 ⟨rfl, hb⟩; have HB := Lib.hid hb; clear hb)
  go_ret
  exact ⟨rfl, HB.out⟩
theorem born_inv (v : Option Addr) (i : Int) (w : World) (h : Inv w v) : Calls Try.prog 16 #[.pointer v, .int .i64 i] w fun e w' => e = .returned (.int .i64 1) ∧ Below w.heap.size w w' := by
  have H := Lib.hid h
  clear h
  go_enter Try.func16, Try.ntmps16
  go_wp2_with (go_at_call 30; refine (turn_inv _ _ 0 2 _ H.out).mono ?_; rintro e w1 ⟨rfl, hb⟩; have HB := Lib.hid hb; clear hb)
  go_ret
  exact ⟨rfl, HB.out⟩
theorem born_ok (b : Nat) (P : Pt) (i : Int) (w : World) (h : PaW w b P) : Calls Try.prog 16 #[.pointer (some ⟨b, 0, none⟩), .int .i64 i] w fun e w' => e = .returned (.int .i64 (P.turnE i 0)) ∧ PaW w' b (P.turn i 0 2) ∧ Kept (· = b) w w' := by
  have H := Lib.hid (turn_ok b P i 0 2 w h (by decide))
  clear h
  generalize P.turnE i 0 = E at *
  go_enter Try.func16, Try.ntmps16
  go_wp2_with (go_at_call 30; refine H.out.mono ?_; rintro e w1 ⟨rfl, hb⟩; have HB := Lib.hid hb; clear hb)
  go_ret
  exact ⟨rfl, HB.out⟩
theorem shade_inv (v : Option Addr) (i : Int) (w : World) (h : Inv w v) : Calls Try.prog 12 #[.pointer v, .int .i64 i] w fun e w' => e = .returned (.tuple #[.bool false, .int .i64 1]) ∧ Below w.heap.size w w' := by
  have H := Lib.hid h
  clear h
  go_enter Try.func12, Try.ntmps12
  go_wp2_with (go_at_call 30; refine (turn_inv _ _ 0 1 _ H.out).mono ?_; rintro e w1 ⟨rfl, hb⟩; have HB := Lib.hid hb; clear hb)
  go_ret2
  exact ⟨rfl, HB.out⟩
theorem turnE_cases (P : Pt) (i : Int) (a : Nat) : P.turnE i a = 0 ∨ P.turnE i a = 8 ∨ P.turnE i a = 3 := by
  unfold Pt.turnE; split
  · split
    · exact .inl rfl
    · exact .inr (.inl rfl)
  · exact .inr (.inr rfl)
theorem shadeB_eq (P : Pt) (i : Int) : P.shadeB i = (P.turnE i 0 == 0) := by
  unfold Pt.shadeB Pt.turnE
  by_cases h1 : P.at_ i <;> by_cases h2 : P.c i.toNat = 0 <;> simp [h1, h2]
theorem chk_eq (P : Pt) (i : Int) : P.chk i = if P.turnE i 0 = 8 then 0 else P.turnE i 0 := by
  unfold Pt.chk Pt.turnE
  by_cases h1 : P.at_ i <;> by_cases h2 : P.c i.toNat = 0 <;> simp [h1, h2]
theorem shade_ok (b : Nat) (P : Pt) (i : Int) (w : World) (h : PaW w b P) : Calls Try.prog 12 #[.pointer (some ⟨b, 0, none⟩), .int .i64 i] w fun e w' => e = .returned (.tuple #[.bool (P.shadeB i), .int .i64 (P.chk i)]) ∧ PaW w' b (P.turn i 0 1) ∧ Kept (· = b) w w' := by
  have H := Lib.hid (turn_ok b P i 0 1 w h (by decide))
  have HS := turnE_cases P i 0
  clear h
  rw [shadeB_eq, chk_eq]
  generalize P.turnE i 0 = E at *
  rcases HS with rfl | rfl | rfl
  all_goals
    go_enter Try.func12, Try.ntmps12
    go_wp2_with (go_at_call 30; refine H.out.mono ?_; rintro e w1 ⟨rfl, hb⟩; have HB := Lib.hid hb; clear hb)
    go_ret2
    exact ⟨rfl, HB.out⟩
theorem bleach_inv (v : Option Addr) (i : Int) (w : World) (h : Inv w v) : Calls Try.prog 18 #[.pointer v, .int .i64 i] w fun e w' => e = .returned (.int .i64 1) ∧ Below w.heap.size w w' := by
  have H := Lib.hid h
  clear h
  go_enter Try.func18, Try.ntmps18
  go_wp2_with (go_at_call 33; refine (change_inv _ _ _ _ H.out).mono ?_; rintro e w1 ⟨rfl, rfl⟩)
  go_ret
  exact ⟨rfl, Below.refl _ _⟩
theorem bleach_ok (b : Nat) (P : Pt) (i : Int) (w : World) (h : PaW w b P) : Calls Try.prog 18 #[.pointer (some ⟨b, 0, none⟩), .int .i64 i] w fun e w' => e = .returned (.int .i64 (P.chk i)) ∧ PaW w' b (P.bleach i) ∧ Kept (· = b) w w' := by
  have key : Calls Try.prog 33 #[.pointer (some ⟨b, 0, none⟩), .int .i64 i, .func (.func 34) #[] #[]] w fun e w' => e = .returned (.int .i64 (P.chk i)) ∧ PaW w' b (P.bleach i) ∧ Kept (· = b) w w' := by
    unfold Pt.chk Pt.bleach
    by_cases hi : P.at_ i
    · obtain ⟨k, rfl⟩ : ∃ k : Nat, i = k := ⟨i.toNat, by unfold Pt.at_ at hi; omega⟩
      rw [Int.toNat_natCast, if_pos hi, if_pos hi]
      exact change_bl b P k w h ((P.at_nat k).1 hi)
    · rw [if_neg hi, if_neg hi]
      refine (change_out b P i _ w h (by unfold Pt.at_ at hi; omega)).mono fun e w' ⟨k1, k2⟩ => ?_
      subst k2
      exact ⟨k1, h, Kept.refl _ _⟩
  have H := Lib.hid key
  clear h key
  generalize P.chk i = E at *
  go_enter Try.func18, Try.ntmps18
  go_wp2_with (go_at_call 33; refine H.out.mono ?_; rintro e w1 ⟨rfl, hb⟩; have HB := Lib.hid hb; clear hb)
  go_ret
  exact ⟨rfl, HB.out⟩
end Go.Proofs.Ythcpmcdgojgdlaa
