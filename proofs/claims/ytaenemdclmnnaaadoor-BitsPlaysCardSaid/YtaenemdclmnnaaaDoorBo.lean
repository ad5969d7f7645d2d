/- A pair of sets: the document's Union, Minus, Copy; what both show; the state of three pairs. -/
import Derived.Test.YtaenemdclmnnaaaDoorBn
namespace Go.Proofs.YtaenemdclmnnaaaDoor
open Go.RowKit

theorem runion_of (a b : Option Addr) (w : World) (R : Int → World → Prop) (h : Calls Tryd.prog 42 #[.pointer a, .pointer b, .bool true] w fun e w' => ∃ z, e = .returned (.int .i64 z) ∧ R z w') :
    Calls Tryd.prog 20 #[.pointer a, .pointer b] w fun e w' => ∃ z, e = .returned (.int .i64 z) ∧ R z w' := by
  have H := Lib.hid h
  clear h
  go_enter Tryd.func20, Tryd.ntmps20
  go_wp2_with (go_at_call 42; refine H.out.mono ?_; rintro e w' ⟨z, rfl, hr⟩; have HR := Lib.hid hr; clear hr)
  go_ret
  exact ⟨z, rfl, HR.out⟩
theorem rminus_of (a b : Option Addr) (w : World) (R : Int → World → Prop) (h : Calls Tryd.prog 42 #[.pointer a, .pointer b, .bool false] w fun e w' => ∃ z, e = .returned (.int .i64 z) ∧ R z w') :
    Calls Tryd.prog 22 #[.pointer a, .pointer b] w fun e w' => ∃ z, e = .returned (.int .i64 z) ∧ R z w' := by
  have H := Lib.hid h
  clear h
  go_enter Tryd.func22, Tryd.ntmps22
  go_wp2_with (go_at_call 42; refine H.out.mono ?_; rintro e w' ⟨z, rfl, hr⟩; have HR := Lib.hid hr; clear hr)
  go_ret
  exact ⟨z, rfl, HR.out⟩
theorem p_rall (x : Bool) (w : World) (P T : Pr) (n m : Nat) (F H Ft Ht : Nat → Bool) (a : PR w P n F H) (t : PR w T m Ft Ht) :
    Calls Tryd.prog 42 #[.pointer P.u, .pointer T.u, .bool x] w fun e w' => ∃ z, e = .returned (.int .i64 z) ∧ z = coE P T n m ∧ PR w' P n F (coF P T n m H (if x then un H Ht else mi H Ht)) ∧ Kept (At P.ok P.d) w w' := by
  cases hok : P.ok
  · obtain ⟨h1, h2⟩ := a.no hok
    rw [h2]
    have e1 : coE P T n m = 1 := by simp [coE, hok]
    have e2 : ∀ G, coF P T n m H G = H := fun G => by simp [coF, both, hok]
    rw [e1, e2]
    exact (rall_set_nil1 T.u x w).mono fun e w' ⟨k1, k2⟩ => ⟨1, k1, rfl, a.same k2, k2 ▸ Kept.refl _ _⟩
  · obtain ⟨h1, h2, h3, h4⟩ := a.yes hok
    rw [h2]
    cases hot : T.ok
    · obtain ⟨g1, g2⟩ := t.no hot
      rw [g2]
      have e1 : coE P T n m = 1 := by simp [coE, hot]
      have e2 : ∀ G, coF P T n m H G = H := fun G => by simp [coF, both, hot]
      rw [e1, e2]
      exact (rall_set_nil2 P.c P.d n H x w h4).mono fun e w' ⟨k1, k2⟩ => ⟨1, k1, rfl, a.same k2, k2 ▸ Kept.refl _ _⟩
    · obtain ⟨g1, g2, g3, g4⟩ := t.yes hot
      rw [g2]
      by_cases hnm : n = m
      · subst hnm
        have e1 : coE P T n n = 0 := by simp [coE, hok, hot]
        have e2 : ∀ G, coF P T n n H G = G := fun G => by simp [coF, both, hok, hot]
        have e3 : (fun q => if Ht q then x else H q) = if x then un H Ht else mi H Ht := by
          cases x
          · exact mi_if H Ht
          · exact un_if H Ht
        rw [e1, e2]
        refine (rall_set_ok P.c P.d T.c T.d n H Ht x w h4 g4).mono ?_
        rintro e w' ⟨k1, k2, k3⟩
        rw [e3] at k2
        exact ⟨0, k1, rfl, ⟨fun e => (by rw [hok] at e; cases e), fun _ => ⟨h1, h2, h3.kept k3 (fun e => (types_sr h3 h4).2.1 e) (fun e => (types_sr h3 h4).2.2.2 e), k2⟩⟩, k3.mono fun k _ e => ⟨rfl, e⟩⟩
      · have e1 : coE P T n m = 2 := by simp [coE, hok, hot, hnm]
        have e2 : ∀ G, coF P T n m H G = H := fun G => by simp [coF, both, hnm]
        rw [e1, e2]
        refine (rall_set_arg P.c P.d n T.c T.d m H Ht x w h4 g4 hnm).mono ?_
        rintro e w' ⟨k1, q, rfl⟩
        exact ⟨2, k1, rfl, a.drewN q, drew_kept w q⟩

/-! ### Copy, New -/
theorem p_copy (w : World) (P : Pr) (n : Nat) (F H : Nat → Bool) (a : PR w P n F H) : Calls Tryd.prog 23 #[.pointer P.v] w fun e w' => ∃ v b g, e = .returned (.pointer v) ∧ (P.ok = false → v = none) ∧ (P.ok = true → v = some ⟨b, 0, none⟩ ∧ SetW w' b g n F ∧ w.heap.size ≤ b ∧ w.heap.size ≤ g) ∧ Below w.heap.size w w' := by
  cases hok : P.ok
  · obtain ⟨h1, h2⟩ := a.no hok
    rw [h1]
    exact (copy_inv none w (.inl rfl)).mono fun e w' ⟨k1, k2⟩ => ⟨none, 0, 0, k1, fun _ => rfl, fun e => (by cases e), k2 ▸ Below.refl _ _⟩
  · obtain ⟨h1, h2, h3, h4⟩ := a.yes hok
    rw [h1]
    exact (copy_ok P.b P.g n F w h3).mono fun e w' ⟨b, g, k1, k2, k3, k4, k5⟩ => ⟨_, b, g, k3, fun e => (by cases e), fun _ => ⟨rfl, k4, k1, k2⟩, k5⟩
theorem p_rcopy (w : World) (P : Pr) (n : Nat) (F H : Nat → Bool) (a : PR w P n F H) : Calls Tryd.prog 24 #[.pointer P.u] w fun e w' => ∃ v b g, e = .returned (.pointer v) ∧ (P.ok = false → v = none) ∧ (P.ok = true → v = some ⟨b, 0, none⟩ ∧ RefW w' b g n H ∧ w.heap.size ≤ b ∧ w.heap.size ≤ g) ∧ Below w.heap.size w w' := by
  cases hok : P.ok
  · obtain ⟨h1, h2⟩ := a.no hok
    rw [h2]
    exact (rcopy_nil w).mono fun e w' ⟨k1, k2⟩ => ⟨none, 0, 0, k1, fun _ => rfl, fun e => (by cases e), k2 ▸ Below.refl _ _⟩
  · obtain ⟨h1, h2, h3, h4⟩ := a.yes hok
    rw [h2]
    exact (rcopy_ok P.c P.d n H w h4).mono fun e w' ⟨b, g, k1, k2, k3, k4, k5⟩ => ⟨_, b, g, k3, fun e => (by cases e), fun _ => ⟨rfl, k4, k1, k2⟩, k5⟩

/-! ### what both show -/
theorem hdE (l : List Nat) : ((l.headD 0 : Nat) : Int) = ((l.headD 0 : Nat) : Int) := rfl
set_option maxRecDepth 100000 in
set_option maxHeartbeats 2000000 in
theorem shows_nil (i : Int) (w : World) : Calls Tryd.prog 25 #[.pointer none, .pointer none, .int .i64 i] w fun e w' => e = .returned (.bool true) ∧ Below w.heap.size w w' := by
  go_enter Tryd.func25, Tryd.ntmps25
  go_wp2_with fail
  refine (next_inv none i _ (.inl rfl)).mono ?_
  rintro e w1 ⟨rfl, hb1⟩
  have B1 := Lib.hid hb1
  clear hb1
  go_wp2_with fail
  refine (rnext_nil i _).mono ?_
  rintro e w' ⟨rfl, rfl⟩
  go_wp2_with fail
  refine (all_inv none _ (.inl rfl)).mono ?_
  rintro e w2 ⟨rfl, hb2⟩
  have B2 := Lib.hid (bel2 B1.out hb2)
  clear hb2 B1
  go_wp2_with fail
  refine (rall_nil _).mono ?_
  rintro e w' ⟨rfl, rfl⟩
  go_wp2_with fail
  refine (equal_zero none none 0 0 _).mono ?_
  rintro e w3 ⟨rfl, q, rfl⟩
  go_wp2_with fail
  refine (count_inv none _ (.inl rfl)).mono ?_
  rintro e w' ⟨rfl, rfl⟩
  go_wp2_with fail
  refine (rcount_nil _).mono ?_
  rintro e w' ⟨rfl, rfl⟩
  go_wp2_with fail
  refine (size_inv none _ (.inl rfl)).mono ?_
  rintro e w' ⟨rfl, rfl⟩
  go_wp2_with fail
  refine (rsize_nil _).mono ?_
  rintro e w' ⟨rfl, rfl⟩
  go_wp2_with fail
  refine (has_inv none _ _ (.inl rfl)).mono ?_
  rintro e w' ⟨rfl, rfl⟩
  go_wp2_with fail
  refine (rhas_nil _ _).mono ?_
  rintro e w' ⟨rfl, rfl⟩
  go_wp2
  go_ret
  exact ⟨rfl, bel_drewN B2.out q⟩
set_option maxRecDepth 100000 in
set_option maxHeartbeats 4000000 in
theorem shows_ok (b g c d n : Nat) (F : Nat → Bool) (i : Int) (hi : i ≤ 9223372036854775807) (w : World) (hs : SetW w b g n F) (hr : RefW w c d n F) (hT : Tab w) :
    Calls Tryd.prog 25 #[.pointer (some ⟨b, 0, none⟩), .pointer (some ⟨c, 0, none⟩), .int .i64 i] w fun e w' => e = .returned (.bool true) ∧ Below w.heap.size w w' := by
  have ST : Hid (SetW w b g n F ∧ RefW w c d n F ∧ Tab w) := ⟨hs, hr, hT⟩
  have HQ : Hid (∀ {w w' : World}, (SetW w b g n F ∧ RefW w c d n F ∧ Tab w) → Below w.heap.size w w' → (SetW w' b g n F ∧ RefW w' c d n F ∧ Tab w')) := fun h k => ⟨h.1.below k, h.2.1.below k, h.2.2.below k⟩
  clear hs hr hT
  obtain ⟨L, hL⟩ : ∃ L, from_ F n i = L := ⟨_, rfl⟩
  have HL := Lib.hid hL
  clear hL
  go_enter Tryd.func25, Tryd.ntmps25
  go_wp2_with fail
  refine (next_ok b g n F i hi _ ST.out.1 ST.out.2.2).mono ?_
  rw [HL.out]
  rintro e w1 ⟨rfl, hb1⟩
  have B1 := Lib.hid hb1
  have S1 := Lib.hid (HQ.out ST.out hb1)
  clear hb1 ST
  obtain ⟨x, hx⟩ : ∃ x : Nat, L.headD 0 = x := ⟨_, rfl⟩
  obtain ⟨y, hy⟩ : ∃ y : Bool, L.isEmpty = y := ⟨_, rfl⟩
  have HX := Lib.hid hx
  have HY := Lib.hid hy
  rw [hx, hy]
  clear hx hy
  go_wp2_with fail
  refine (rnext_ok c d n F i _ S1.out.2.1).mono ?_
  rw [HL.out]
  unfold RNextV
  rw [HX.out, HY.out]
  rintro e w2 ⟨rfl, hb2⟩
  have B2 := Lib.hid (bel2 B1.out hb2)
  have S2 := Lib.hid (HQ.out S1.out hb2)
  clear hb2 S1 B1
  go_wp2_with fail
  refine (all_s b g n F (lst F n) _ S2.out.1 S2.out.2.2 rfl).mono ?_
  rintro e w3 ⟨v3, rfl, hv3, _, hb3⟩
  have B3 := Lib.hid (bel2 B2.out hb3)
  have S3 := Lib.hid (HQ.out S2.out hb3)
  have V3 := Lib.hid hv3
  clear hb3 hv3 S2 B2
  go_wp2_with fail
  refine (rall_s c d n F _ S3.out.2.1).mono ?_
  rintro e w4 ⟨v4, rfl, hv4, _, hb4⟩
  have B4 := Lib.hid (bel2 B3.out hb4)
  have S4 := Lib.hid (HQ.out S3.out hb4)
  have V4 := Lib.hid (V3.out.below hb4)
  have U4 := Lib.hid hv4
  clear hb4 hv4 S3 B3 V3
  go_wp2_with fail
  refine (equal_yes _ _ (lst F n) _ V4.out U4.out).mono ?_
  rintro e w5 ⟨rfl, q5, rfl⟩
  have B5 := Lib.hid (bel_drewN B4.out q5)
  have S5 := Lib.hid (HQ.out S4.out (bel_drewN (Below.refl _ _) q5))
  clear S4 B4 V4 U4
  generalize w4.drewN q5 = w6 at *
  obtain ⟨k, hk⟩ : ∃ k, (lst F n).length = k := ⟨_, rfl⟩
  have HK := Lib.hid hk
  clear hk
  go_wp2_with fail
  refine (count_ok b g n F _ S5.out.1).mono ?_
  rw [HK.out]
  rintro e w' ⟨rfl, rfl⟩
  go_wp2_with fail
  refine (rcount_ok c d n F _ S5.out.2.1).mono ?_
  rw [HK.out]
  rintro e w7 ⟨rfl, hb7⟩
  have B7 := Lib.hid (bel2 B5.out hb7)
  have S7 := Lib.hid (HQ.out S5.out hb7)
  clear hb7 S5 B5
  go_wp2_with fail
  refine (size_ok b g n F _ S7.out.1).mono ?_
  rintro e w' ⟨rfl, rfl⟩
  go_wp2_with fail
  refine (rsize_ok c d n F _ S7.out.2.1).mono ?_
  rintro e w' ⟨rfl, rfl⟩
  obtain ⟨z, hz⟩ : ∃ z, hasE F n i = z := ⟨_, rfl⟩
  have HZ := Lib.hid hz
  clear hz
  go_wp2_with fail
  refine (has_any b g n F i _ S7.out.1).mono ?_
  rw [HZ.out]
  rintro e w8 ⟨rfl, hb8⟩
  have B8 := Lib.hid (bel2 B7.out hb8)
  have S8 := Lib.hid (HQ.out S7.out hb8)
  clear hb8 S7 B7
  go_wp2_with fail
  refine (rhas_any c d n F i _ S8.out.2.1).mono ?_
  rw [HZ.out]
  rintro e w' ⟨rfl, rfl⟩
  go_wp2
  go_ret
  exact ⟨rfl, B8.out⟩
theorem p_shows (w : World) (P : Pr) (n : Nat) (F : Nat → Bool) (i : Int) (hi : i ≤ 9223372036854775807) (a : PR w P n F F) (hT : Tab w) :
    Calls Tryd.prog 25 #[.pointer P.v, .pointer P.u, .int .i64 i] w fun e w' => e = .returned (.bool true) ∧ Below w.heap.size w w' := by
  cases hok : P.ok
  · obtain ⟨h1, h2⟩ := a.no hok
    rw [h1, h2]
    exact shows_nil i w
  · obtain ⟨h1, h2, h3, h4⟩ := a.yes hok
    rw [h1, h2]
    exact shows_ok P.b P.g P.c P.d n F i hi w h3 h4 hT
end Go.Proofs.YtaenemdclmnnaaaDoor
