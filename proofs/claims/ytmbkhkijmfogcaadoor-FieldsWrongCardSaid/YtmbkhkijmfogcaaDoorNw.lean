/- The examples of the chapter: works. -/
import Derived.Test.YtmbkhkijmfogcaaDoorNv
import Derived.Deep.RegionHeld3
namespace Go.Proofs.YtmbkhkijmfogcaaDoor
open Go.RowKit
attribute [local go_sem] eqArr

theorem dig1 (u : Nat) (h : u < 10) : Lib.decDigits u = [UInt8.ofNat (48 + u)] := Lib.decDigits_one h
theorem bup (w : World) (o : Obj) : Below w.heap.size w (w.alloc o) := (Below.refl _ w).alloc (Nat.le_refl _) o
theorem bup2 (w : World) (o p : Obj) : Below w.heap.size w ((w.alloc o).alloc p) := bel2 (bup w o) (bup _ p)
/-- An object of two fields, with the reference of the examples in the second one. -/
def oA : Ob := mk 2 false
def oO : Ob := ⟨2, (0, 0), (3, 7), (0, 0), (0, 0), false⟩
theorem pA : Poss oA := mk_poss (by decide) (by decide) (fun e => by cases e)
theorem r37 : RfOk (3, 7) := .inr ⟨by decide, by decide, by decide, by decide⟩
theorem pO : Poss oO := pA.upd (r := (3, 7)) (j := 1) r37 (by decide)
theorem t37 : rtxt (3, 7) = [51, 46, 55] := by
  have e3 : Lib.decDigits 3 = [51] := dig1 3 (by decide)
  have e7 : Lib.decDigits 7 = [55] := dig1 7 (by decide)
  rw [rtxt_some (by decide)]
  show Lib.decDigits 3 ++ 46 :: Lib.decDigits 7 = _
  rw [e3, e7]
  rfl
theorem tO : otxt oO = [111, 98, 106, 101, 99, 116, 32, 45, 32, 51, 46, 55] := by
  rw [otxt_no rfl]
  have : words oO = [[45], [51, 46, 55]] := by
    show [rtxt (0, 0), rtxt (3, 7)] = _
    rw [rtxt_none, t37]
  rw [this]
  rfl
theorem no00 : NoObj [111, 98, 106, 101, 99, 116, 32, 48, 46, 48] := by
  have h : Pst [111, 98, 106, 101, 99, 116, 32, 48, 46, 48] ob0 (32 :: ([48, 46, 48] ++ [])) := Pst.begin rfl
  refine h.wrong (by decide) (.inl rfl) fun r hr e => ?_
  by_cases h0 : r = (0, 0)
  · rw [h0, rtxt_none] at e
    exact absurd e (by decide)
  · obtain ⟨s, g, rfl, h1, h2, h3, h4⟩ := rfok_nat hr h0
    rw [h4] at e
    have e0 : Lib.decDigits 0 = [48] := dig1 0 (by decide)
    have e2 : Lib.decDigits 0 ++ 46 :: Lib.decDigits 0 = Lib.decDigits s ++ 46 :: Lib.decDigits g := by rw [← e, e0]; rfl
    obtain ⟨_, e4⟩ := split_eq (digit_ne (.inl rfl) 0) (digit_ne (.inl rfl) s) e2
    have := digits_inj e4
    omega
theorem rdr_new (w : World) (r : Rf) : RdR (w.alloc (.cells (rfc r) 24)) (.slice (some ⟨w.heap.size, 0, none⟩) 1 1) [r] := by
  refine ⟨_, 1, rfl, Nat.le_refl _, by omega, fun e => (by cases e), fun _ => ⟨w.heap.size, 0, rfl, (Bk.new w _ _).lt, fun j x hj => ?_⟩⟩
  rw [Nat.zero_add, (Bk.new w 24 (rfc r)).cell]
  have e : rcls [r] = rcl r := by simp [rcls]
  rw [e] at hj
  show (rcl r).toArray[j]? = _
  simpa using hj
theorem ex1 (w : World) : Calls Tryd.prog 11 #[.int .i64 2, .bool false] w fun e w' => e = .returned (.tuple #[.agg #[.int .i64 2, .int .i64 0, .int .u32 0, .int .i64 0, .int .u32 0, .int .i64 0, .int .u32 0, .int .i64 0, .int .u32 0, .bool false], .int .i64 0]) ∧ Below w.heap.size w w' := by
  have h := new_any 2 (by omega) false w
  rw [new_ok pA] at h
  exact h

theorem ex2 (w : World) : Calls Tryd.prog 11 #[.int .i64 1, .bool true] w fun e w' => e = .returned (.tuple #[.agg #[.int .i64 0, .int .i64 0, .int .u32 0, .int .i64 0, .int .u32 0, .int .i64 0, .int .u32 0, .int .i64 0, .int .u32 0, .bool false], .int .i64 2]) ∧ Below w.heap.size w w' := by
  have h := new_any 1 (by omega) true w
  rw [new_bad (fun hp => by have := hp.hh rfl; simp [mk] at this)] at h
  exact h

theorem ex3 (w : World) : Calls Tryd.prog 21 #[.agg #[.int .i64 2, .int .i64 0, .int .u32 0, .int .i64 0, .int .u32 0, .int .i64 0, .int .u32 0, .int .i64 0, .int .u32 0, .bool false], .int .i64 1, .agg #[.int .i64 3, .int .u32 7]] w fun e w' => e = .returned (.tuple #[.agg #[.int .i64 2, .int .i64 0, .int .u32 0, .int .i64 3, .int .u32 7, .int .i64 0, .int .u32 0, .int .i64 0, .int .u32 0, .bool false], .agg #[.int .i64 0, .int .u32 0], .int .i64 0]) ∧ Below w.heap.size w w' := by
  have h := set_any oA pA.rg 1 (by omega) (3, 7) r37.rr w
  rw [set_ok pA r37 ⟨by decide, by decide⟩] at h
  exact h

theorem ex4 (w : World) : Calls Tryd.prog 19 #[.agg #[.int .i64 2, .int .i64 0, .int .u32 0, .int .i64 3, .int .u32 7, .int .i64 0, .int .u32 0, .int .i64 0, .int .u32 0, .bool false], .int .i64 1] w fun e w' => e = .returned (.tuple #[.agg #[.int .i64 3, .int .u32 7], .int .i64 0]) ∧ Below w.heap.size w w' := by
  have h := get_any oO pO.rg 1 (by omega) w
  rw [get_ok pO ⟨by decide, by decide⟩] at h
  exact h

theorem ex5 (w : World) : Calls Tryd.prog 19 #[.agg #[.int .i64 2, .int .i64 0, .int .u32 0, .int .i64 3, .int .u32 7, .int .i64 0, .int .u32 0, .int .i64 0, .int .u32 0, .bool false], .int .i64 2] w fun e w' => e = .returned (.tuple #[.agg #[.int .i64 0, .int .u32 0], .int .i64 3]) ∧ Below w.heap.size w w' := by
  have h := get_any oO pO.rg 2 (by omega) w
  rw [get_out pO (.inr (by decide))] at h
  exact h

theorem ex6 (w : World) : Calls Tryd.prog 21 #[.agg #[.int .i64 2, .int .i64 0, .int .u32 0, .int .i64 3, .int .u32 7, .int .i64 0, .int .u32 0, .int .i64 0, .int .u32 0, .bool false], .int .i64 1, .agg #[.int .i64 0, .int .u32 0]] w fun e w' => e = .returned (.tuple #[.agg #[.int .i64 2, .int .i64 0, .int .u32 0, .int .i64 0, .int .u32 0, .int .i64 0, .int .u32 0, .int .i64 0, .int .u32 0, .bool false], .agg #[.int .i64 3, .int .u32 7], .int .i64 0]) ∧ Below w.heap.size w w' := by
  have h := set_any oO pO.rg 1 (by omega) (0, 0) rfok_none.rr w
  rw [set_ok pO rfok_none ⟨by decide, by decide⟩] at h
  exact h

theorem ex7 (w : World) (he : Env w) : Calls Tryd.prog 23 #[.agg #[.int .i64 2, .int .i64 0, .int .u32 0, .int .i64 3, .int .u32 7, .int .i64 0, .int .u32 0, .int .i64 0, .int .u32 0, .bool false]] w fun e w' => e = .returned (.tuple #[.string ⟨#[111, 98, 106, 101, 99, 116, 32, 45, 32, 51, 46, 55]⟩, .int .i64 0]) ∧ Below w.heap.size w w' := by
  have h := text_any oO pO.rg w he
  rw [text_ok' pO, tO] at h
  exact h

theorem ex8 (w : World) (he : Env w) : Calls Tryd.prog 25 #[.string ⟨#[111, 98, 106, 101, 99, 116, 32, 45, 32, 51, 46, 55]⟩] w fun e w' => e = .returned (.tuple #[.agg #[.int .i64 2, .int .i64 0, .int .u32 0, .int .i64 3, .int .u32 7, .int .i64 0, .int .u32 0, .int .i64 0, .int .u32 0, .bool false], .int .i64 0]) ∧ Below w.heap.size w w' := by
  have h := parse_any ⟨#[111, 98, 106, 101, 99, 116, 32, 45, 32, 51, 46, 55]⟩ (by decide) w he
  rw [show parseR (⟨#[111, 98, 106, 101, 99, 116, 32, 45, 32, 51, 46, 55]⟩ : ByteArray).data.toList = (oO, 0) by rw [← parse_ok' pO, tO]] at h
  exact h

theorem ex9 (w : World) (he : Env w) : Calls Tryd.prog 25 #[.string ⟨#[111, 98, 106, 101, 99, 116, 32, 48, 46, 48]⟩] w fun e w' => e = .returned (.tuple #[.agg #[.int .i64 0, .int .i64 0, .int .u32 0, .int .i64 0, .int .u32 0, .int .i64 0, .int .u32 0, .int .i64 0, .int .u32 0, .bool false], .int .i64 9]) ∧ Below w.heap.size w w' := by
  have h := parse_any ⟨#[111, 98, 106, 101, 99, 116, 32, 48, 46, 48]⟩ (by decide) w he
  rw [show parseR (⟨#[111, 98, 106, 101, 99, 116, 32, 48, 46, 48]⟩ : ByteArray).data.toList = (ob0, 9) from parse_bad' no00] at h
  exact h

theorem ex10 (w : World) : Calls Tryd.prog 16 #[.agg #[.int .i64 2, .int .i64 0, .int .u32 0, .int .i64 3, .int .u32 7, .int .i64 0, .int .u32 0, .int .i64 0, .int .u32 0, .bool false]] w (NewR [(3, 7)] w) := refs_ok oO w

set_option maxRecDepth 1000000 in
set_option maxHeartbeats 8000000 in
theorem works_ok (w : World) (he : Env w) : Calls Tryd.prog 18 #[] w fun e w' => e = .returned (.bool true) ∧ Below w.heap.size w w' := by
  have HE0 := Lib.hid he
  have HB0 := Lib.hid (Below.refl w.heap.size w)
  clear he
  go_enter Tryd.func18, Tryd.ntmps18
  go_upto_region 1 with fail
  go_wp2_with fail
  refine (ex1 _).mono ?_
  rintro e w1 ⟨rfl, hb⟩
  obtain ⟨W1, hW⟩ : ∃ W1, (w1.alloc (.cells #[.int .i64 2, .int .i64 0, .int .u32 0, .int .i64 0, .int .u32 0, .int .i64 0, .int .u32 0, .int .i64 0, .int .u32 0, .bool false] 27)) = W1 := ⟨_, rfl⟩
  have hal : Below w1.heap.size w1 W1 := by rw [← hW]; exact bup _ _
  have hst := bel2 hb hal
  have hsz1 : W1.heap.size = w1.heap.size + 1 := by rw [← hW]; simp
  have HA1 : Hid (Bk W1 w1.heap.size 27 (obc oA)) := by unfold Hid; rw [← hW]; exact Bk.new _ _ _
  have HE1 := Lib.hid (HE0.out.below hst)
  have HB1 := Lib.hid (bel2 HB0.out hst)
  have HW1 := Lib.hid hW
  clear hst hb hW hal
  go_upto_region 2 with fail
  rw [HW1.out]
  go_wp2_with fail
  refine (ex2 _).mono ?_
  rintro e w2 ⟨rfl, hb⟩
  obtain ⟨W2, hW⟩ : ∃ W2, (w2.alloc (.cells #[.int .i64 0, .int .i64 0, .int .u32 0, .int .i64 0, .int .u32 0, .int .i64 0, .int .u32 0, .int .i64 0, .int .u32 0, .bool false] 27)) = W2 := ⟨_, rfl⟩
  have hal : Below w2.heap.size w2 W2 := by rw [← hW]; exact bup _ _
  have hst := bel2 hb hal
  have hsz2 : W2.heap.size = w2.heap.size + 1 := by rw [← hW]; simp
  have HA2 := Lib.hid (HA1.out.below hst)
  have HE2 := Lib.hid (HE1.out.below hst)
  have HB2 := Lib.hid (bel2 HB1.out hst)
  have HW2 := Lib.hid hW
  clear hst hb hW hal
  go_upto_region 3 with fail
  rw [HW2.out]
  obtain ⟨a0, a1, a2, a3, a4, a5, a6, a7, a8, a9⟩ := HA2.out.ob
  simp only [oA, mk] at a0 a1 a2 a3 a4 a5 a6 a7 a8 a9
  go_wp2_with fail
  refine (ex3 _).mono ?_
  rintro e w3 ⟨rfl, hb⟩
  obtain ⟨W3, hW⟩ : ∃ W3, ((w3.alloc (.cells #[.int .i64 2, .int .i64 0, .int .u32 0, .int .i64 3, .int .u32 7, .int .i64 0, .int .u32 0, .int .i64 0, .int .u32 0, .bool false] 27)).alloc (.cells #[.int .i64 0, .int .u32 0] 24)) = W3 := ⟨_, rfl⟩
  have hal : Below w3.heap.size w3 W3 := by rw [← hW]; exact bup2 _ _ _
  have hst := bel2 hb hal
  have hsz3 : W3.heap.size = w3.heap.size + 2 := by rw [← hW]; simp
  have HA3 := Lib.hid (HA2.out.below hst)
  have HO3 : Hid (Bk W3 w3.heap.size 27 (obc oO)) := by unfold Hid; exact (two_boxes w3 _ _ _ _ hW).1
  have HS3 : Hid (Bk W3 (w3.heap.size + 1) 24 (rfc (0, 0))) := by unfold Hid; exact (two_boxes w3 _ _ _ _ hW).2.1
  have HE3 := Lib.hid (HE2.out.below hst)
  have HB3 := Lib.hid (bel2 HB2.out hst)
  have HW3 := Lib.hid hW
  clear a0 a1 a2 a3 a4 a5 a6 a7 a8 a9
  clear hst hb hW hal
  go_upto_region 4 with fail
  rw [HW3.out]
  obtain ⟨o0, o1, o2, o3, o4, o5, o6, o7, o8, o9⟩ := HO3.out.ob
  simp only [oO] at o0 o1 o2 o3 o4 o5 o6 o7 o8 o9
  go_wp2_with fail
  refine (ex4 _).mono ?_
  rintro e w4 ⟨rfl, hb⟩
  obtain ⟨W4, hW⟩ : ∃ W4, (w4.alloc (.cells #[.int .i64 3, .int .u32 7] 24)) = W4 := ⟨_, rfl⟩
  have hal : Below w4.heap.size w4 W4 := by rw [← hW]; exact bup _ _
  have hst := bel2 hb hal
  have hsz4 : W4.heap.size = w4.heap.size + 1 := by rw [← hW]; simp
  have HA4 := Lib.hid (HA3.out.below hst)
  have HO4 := Lib.hid (HO3.out.below hst)
  have HS4 := Lib.hid (HS3.out.below hst)
  have HR4 : Hid (Bk W4 w4.heap.size 24 (rfc (3, 7))) := by unfold Hid; rw [← hW]; exact Bk.new _ _ _
  have HE4 := Lib.hid (HE3.out.below hst)
  have HB4 := Lib.hid (bel2 HB3.out hst)
  have HW4 := Lib.hid hW
  clear o0 o1 o2 o3 o4 o5 o6 o7 o8 o9
  clear hst hb hW hal
  go_upto_region 5 with fail
  rw [HW4.out]
  obtain ⟨o0, o1, o2, o3, o4, o5, o6, o7, o8, o9⟩ := HO4.out.ob
  simp only [oO] at o0 o1 o2 o3 o4 o5 o6 o7 o8 o9
  go_wp2_with fail
  refine (ex5 _).mono ?_
  rintro e w5 ⟨rfl, hb⟩
  obtain ⟨W5, hW⟩ : ∃ W5, (w5.alloc (.cells #[.int .i64 0, .int .u32 0] 24)) = W5 := ⟨_, rfl⟩
  have hal : Below w5.heap.size w5 W5 := by rw [← hW]; exact bup _ _
  have hst := bel2 hb hal
  have hsz5 : W5.heap.size = w5.heap.size + 1 := by rw [← hW]; simp
  have HA5 := Lib.hid (HA4.out.below hst)
  have HO5 := Lib.hid (HO4.out.below hst)
  have HS5 := Lib.hid (HS4.out.below hst)
  have HR5 := Lib.hid (HR4.out.below hst)
  have HE5 := Lib.hid (HE4.out.below hst)
  have HB5 := Lib.hid (bel2 HB4.out hst)
  have HW5 := Lib.hid hW
  clear o0 o1 o2 o3 o4 o5 o6 o7 o8 o9
  clear hst hb hW hal
  go_upto_region 6 with fail
  rw [HW5.out]
  obtain ⟨o0, o1, o2, o3, o4, o5, o6, o7, o8, o9⟩ := HO5.out.ob
  simp only [oO] at o0 o1 o2 o3 o4 o5 o6 o7 o8 o9
  go_wp2_with fail
  refine (ex6 _).mono ?_
  rintro e w6 ⟨rfl, hb⟩
  obtain ⟨W6, hW⟩ : ∃ W6, ((w6.alloc (.cells #[.int .i64 2, .int .i64 0, .int .u32 0, .int .i64 0, .int .u32 0, .int .i64 0, .int .u32 0, .int .i64 0, .int .u32 0, .bool false] 27)).alloc (.cells #[.int .i64 3, .int .u32 7] 24)) = W6 := ⟨_, rfl⟩
  have hal : Below w6.heap.size w6 W6 := by rw [← hW]; exact bup2 _ _ _
  have hst := bel2 hb hal
  have hsz6 : W6.heap.size = w6.heap.size + 2 := by rw [← hW]; simp
  have HA6 := Lib.hid (HA5.out.below hst)
  have HO6 := Lib.hid (HO5.out.below hst)
  have HS6 := Lib.hid (HS5.out.below hst)
  have HR6 := Lib.hid (HR5.out.below hst)
  have HK6 : Hid (Bk W6 w6.heap.size 27 (obc oA)) := by unfold Hid; exact (two_boxes w6 _ _ _ _ hW).1
  have HN6 : Hid (Bk W6 (w6.heap.size + 1) 24 (rfc (3, 7))) := by unfold Hid; exact (two_boxes w6 _ _ _ _ hW).2.1
  have HE6 := Lib.hid (HE5.out.below hst)
  have HB6 := Lib.hid (bel2 HB5.out hst)
  have HW6 := Lib.hid hW
  clear o0 o1 o2 o3 o4 o5 o6 o7 o8 o9
  clear hst hb hW hal
  go_upto_region 7 with fail
  rw [HW6.out]
  obtain ⟨o0, o1, o2, o3, o4, o5, o6, o7, o8, o9⟩ := HO6.out.ob
  simp only [oO] at o0 o1 o2 o3 o4 o5 o6 o7 o8 o9
  go_wp2_with fail
  refine (ex7 _ HE6.out).mono ?_
  rintro e w7 ⟨rfl, hb⟩
  obtain ⟨W7, hW⟩ : ∃ W7, w7 = W7 := ⟨_, rfl⟩
  have hst := hb
  rw [hW] at hst
  have HA7 := Lib.hid (HA6.out.below hst)
  have HO7 := Lib.hid (HO6.out.below hst)
  have HS7 := Lib.hid (HS6.out.below hst)
  have HR7 := Lib.hid (HR6.out.below hst)
  have HK7 := Lib.hid (HK6.out.below hst)
  have HN7 := Lib.hid (HN6.out.below hst)
  have HE7 := Lib.hid (HE6.out.below hst)
  have HB7 := Lib.hid (bel2 HB6.out hst)
  have HW7 := Lib.hid hW
  clear o0 o1 o2 o3 o4 o5 o6 o7 o8 o9
  clear hst hb hW
  go_upto_region 8 with fail
  rw [HW7.out]
  go_wp2_with fail
  refine (ex8 _ HE7.out).mono ?_
  rintro e w8 ⟨rfl, hb⟩
  obtain ⟨W8, hW⟩ : ∃ W8, (w8.alloc (.cells #[.int .i64 2, .int .i64 0, .int .u32 0, .int .i64 3, .int .u32 7, .int .i64 0, .int .u32 0, .int .i64 0, .int .u32 0, .bool false] 27)) = W8 := ⟨_, rfl⟩
  have hal : Below w8.heap.size w8 W8 := by rw [← hW]; exact bup _ _
  have hst := bel2 hb hal
  have hsz8 : W8.heap.size = w8.heap.size + 1 := by rw [← hW]; simp
  have HA8 := Lib.hid (HA7.out.below hst)
  have HO8 := Lib.hid (HO7.out.below hst)
  have HS8 := Lib.hid (HS7.out.below hst)
  have HR8 := Lib.hid (HR7.out.below hst)
  have HK8 := Lib.hid (HK7.out.below hst)
  have HN8 := Lib.hid (HN7.out.below hst)
  have HP8 : Hid (Bk W8 w8.heap.size 27 (obc oO)) := by unfold Hid; rw [← hW]; exact Bk.new _ _ _
  have HE8 := Lib.hid (HE7.out.below hst)
  have HB8 := Lib.hid (bel2 HB7.out hst)
  have HW8 := Lib.hid hW
  clear hst hb hW hal
  go_upto_region 9 with fail
  rw [HW8.out]
  go_wp2_with fail
  refine (ex9 _ HE8.out).mono ?_
  rintro e w9 ⟨rfl, hb⟩
  obtain ⟨W9, hW⟩ : ∃ W9, w9.alloc (.cells #[.int .i64 0, .int .i64 0, .int .u32 0, .int .i64 0, .int .u32 0, .int .i64 0, .int .u32 0, .int .i64 0, .int .u32 0, .bool false] 27) = W9 := ⟨_, rfl⟩
  have hal : Below w9.heap.size w9 W9 := by rw [← hW]; exact bup _ _
  have hst := bel2 hb hal
  have HA9 := Lib.hid (HA8.out.below hst)
  have HO9 := Lib.hid (HO8.out.below hst)
  have HS9 := Lib.hid (HS8.out.below hst)
  have HR9 := Lib.hid (HR8.out.below hst)
  have HK9 := Lib.hid (HK8.out.below hst)
  have HN9 := Lib.hid (HN8.out.below hst)
  have HP9 := Lib.hid (HP8.out.below hst)
  have HB9 := Lib.hid (bel2 HB8.out hst)
  have HW9 := Lib.hid hW
  clear hst hb hW hal
  have TC : Hid (∀ W, Below W9.heap.size W9 W → (W.cell? ⟨w1.heap.size, 0, none⟩ = some (.int .i64 2) ∧ W.cell? ⟨w1.heap.size, 1, none⟩ = some (.int .i64 0) ∧ W.cell? ⟨w1.heap.size, 2, none⟩ = some (.int .u32 0) ∧ W.cell? ⟨w1.heap.size, 3, none⟩ = some (.int .i64 0) ∧ W.cell? ⟨w1.heap.size, 4, none⟩ = some (.int .u32 0) ∧ W.cell? ⟨w1.heap.size, 5, none⟩ = some (.int .i64 0) ∧ W.cell? ⟨w1.heap.size, 6, none⟩ = some (.int .u32 0) ∧ W.cell? ⟨w1.heap.size, 7, none⟩ = some (.int .i64 0) ∧ W.cell? ⟨w1.heap.size, 8, none⟩ = some (.int .u32 0) ∧ W.cell? ⟨w1.heap.size, 9, none⟩ = some (.bool false)) ∧ (W.cell? ⟨w3.heap.size, 0, none⟩ = some (.int .i64 2) ∧ W.cell? ⟨w3.heap.size, 1, none⟩ = some (.int .i64 0) ∧ W.cell? ⟨w3.heap.size, 2, none⟩ = some (.int .u32 0) ∧ W.cell? ⟨w3.heap.size, 3, none⟩ = some (.int .i64 3) ∧ W.cell? ⟨w3.heap.size, 4, none⟩ = some (.int .u32 7) ∧ W.cell? ⟨w3.heap.size, 5, none⟩ = some (.int .i64 0) ∧ W.cell? ⟨w3.heap.size, 6, none⟩ = some (.int .u32 0) ∧ W.cell? ⟨w3.heap.size, 7, none⟩ = some (.int .i64 0) ∧ W.cell? ⟨w3.heap.size, 8, none⟩ = some (.int .u32 0) ∧ W.cell? ⟨w3.heap.size, 9, none⟩ = some (.bool false)) ∧ (W.cell? ⟨w3.heap.size + 1, 0, none⟩ = some (.int .i64 0) ∧ W.cell? ⟨w3.heap.size + 1, 1, none⟩ = some (.int .u32 0)) ∧ (W.cell? ⟨w4.heap.size, 0, none⟩ = some (.int .i64 3) ∧ W.cell? ⟨w4.heap.size, 1, none⟩ = some (.int .u32 7)) ∧ (W.cell? ⟨w6.heap.size, 0, none⟩ = some (.int .i64 2) ∧ W.cell? ⟨w6.heap.size, 1, none⟩ = some (.int .i64 0) ∧ W.cell? ⟨w6.heap.size, 2, none⟩ = some (.int .u32 0) ∧ W.cell? ⟨w6.heap.size, 3, none⟩ = some (.int .i64 0) ∧ W.cell? ⟨w6.heap.size, 4, none⟩ = some (.int .u32 0) ∧ W.cell? ⟨w6.heap.size, 5, none⟩ = some (.int .i64 0) ∧ W.cell? ⟨w6.heap.size, 6, none⟩ = some (.int .u32 0) ∧ W.cell? ⟨w6.heap.size, 7, none⟩ = some (.int .i64 0) ∧ W.cell? ⟨w6.heap.size, 8, none⟩ = some (.int .u32 0) ∧ W.cell? ⟨w6.heap.size, 9, none⟩ = some (.bool false)) ∧ (W.cell? ⟨w6.heap.size + 1, 0, none⟩ = some (.int .i64 3) ∧ W.cell? ⟨w6.heap.size + 1, 1, none⟩ = some (.int .u32 7)) ∧ (W.cell? ⟨w8.heap.size, 0, none⟩ = some (.int .i64 2) ∧ W.cell? ⟨w8.heap.size, 1, none⟩ = some (.int .i64 0) ∧ W.cell? ⟨w8.heap.size, 2, none⟩ = some (.int .u32 0) ∧ W.cell? ⟨w8.heap.size, 3, none⟩ = some (.int .i64 3) ∧ W.cell? ⟨w8.heap.size, 4, none⟩ = some (.int .u32 7) ∧ W.cell? ⟨w8.heap.size, 5, none⟩ = some (.int .i64 0) ∧ W.cell? ⟨w8.heap.size, 6, none⟩ = some (.int .u32 0) ∧ W.cell? ⟨w8.heap.size, 7, none⟩ = some (.int .i64 0) ∧ W.cell? ⟨w8.heap.size, 8, none⟩ = some (.int .u32 0) ∧ W.cell? ⟨w8.heap.size, 9, none⟩ = some (.bool false))) := fun W h => ⟨(HA9.out.below h).ob, (HO9.out.below h).ob, (HS9.out.below h).rf, (HR9.out.below h).rf, (HK9.out.below h).ob, (HN9.out.below h).rf, (HP9.out.below h).ob⟩
  go_upto_region 10 with fail
  rw [HW9.out]
  have hz0 := TC.out W9 (Below.refl _ _)
  have EX := Lib.hid ex10
  have hz4 := fun x => TC.out (W9.alloc x).drew (bel2 (bup W9 x) (bel_dr _))
  have EQ : Hid (∀ W q c, RdR W (.slice q 1 c) [(3, 7)] → ∀ g, RdR W (.slice (some ⟨g, 0, none⟩) 1 1) [(3, 7)] → Calls Tryd.prog 15 #[.slice q 1 c, .slice (some ⟨g, 0, none⟩) 1 1] W fun e w' => e = .returned (.bool true) ∧ Below W.heap.size W w') := fun W q c h g h2 => equal_yes _ _ _ _ _ _ [(3, 7)] W h h2
  have D0 := Lib.hid (bel_dr W9)
  have RN : Hid (∀ W : World, RdR (W.alloc (.cells #[.int .i64 3, .int .u32 7] 24)) (.slice (some ⟨W.heap.size, 0, none⟩) 1 1) [(3, 7)]) := fun W => rdr_new W (3, 7)
  try simp only [List.append_eq, List.cons_append, List.nil_append]
  go_region_held3 (fun W => (W.cell? ⟨w1.heap.size, 0, none⟩ = some (.int .i64 2) ∧ W.cell? ⟨w1.heap.size, 1, none⟩ = some (.int .i64 0) ∧ W.cell? ⟨w1.heap.size, 2, none⟩ = some (.int .u32 0) ∧ W.cell? ⟨w1.heap.size, 3, none⟩ = some (.int .i64 0) ∧ W.cell? ⟨w1.heap.size, 4, none⟩ = some (.int .u32 0) ∧ W.cell? ⟨w1.heap.size, 5, none⟩ = some (.int .i64 0) ∧ W.cell? ⟨w1.heap.size, 6, none⟩ = some (.int .u32 0) ∧ W.cell? ⟨w1.heap.size, 7, none⟩ = some (.int .i64 0) ∧ W.cell? ⟨w1.heap.size, 8, none⟩ = some (.int .u32 0) ∧ W.cell? ⟨w1.heap.size, 9, none⟩ = some (.bool false)) ∧ (W.cell? ⟨w3.heap.size, 0, none⟩ = some (.int .i64 2) ∧ W.cell? ⟨w3.heap.size, 1, none⟩ = some (.int .i64 0) ∧ W.cell? ⟨w3.heap.size, 2, none⟩ = some (.int .u32 0) ∧ W.cell? ⟨w3.heap.size, 3, none⟩ = some (.int .i64 3) ∧ W.cell? ⟨w3.heap.size, 4, none⟩ = some (.int .u32 7) ∧ W.cell? ⟨w3.heap.size, 5, none⟩ = some (.int .i64 0) ∧ W.cell? ⟨w3.heap.size, 6, none⟩ = some (.int .u32 0) ∧ W.cell? ⟨w3.heap.size, 7, none⟩ = some (.int .i64 0) ∧ W.cell? ⟨w3.heap.size, 8, none⟩ = some (.int .u32 0) ∧ W.cell? ⟨w3.heap.size, 9, none⟩ = some (.bool false)) ∧ (W.cell? ⟨w3.heap.size + 1, 0, none⟩ = some (.int .i64 0) ∧ W.cell? ⟨w3.heap.size + 1, 1, none⟩ = some (.int .u32 0)) ∧ (W.cell? ⟨w4.heap.size, 0, none⟩ = some (.int .i64 3) ∧ W.cell? ⟨w4.heap.size, 1, none⟩ = some (.int .u32 7)) ∧ (W.cell? ⟨w6.heap.size, 0, none⟩ = some (.int .i64 2) ∧ W.cell? ⟨w6.heap.size, 1, none⟩ = some (.int .i64 0) ∧ W.cell? ⟨w6.heap.size, 2, none⟩ = some (.int .u32 0) ∧ W.cell? ⟨w6.heap.size, 3, none⟩ = some (.int .i64 0) ∧ W.cell? ⟨w6.heap.size, 4, none⟩ = some (.int .u32 0) ∧ W.cell? ⟨w6.heap.size, 5, none⟩ = some (.int .i64 0) ∧ W.cell? ⟨w6.heap.size, 6, none⟩ = some (.int .u32 0) ∧ W.cell? ⟨w6.heap.size, 7, none⟩ = some (.int .i64 0) ∧ W.cell? ⟨w6.heap.size, 8, none⟩ = some (.int .u32 0) ∧ W.cell? ⟨w6.heap.size, 9, none⟩ = some (.bool false)) ∧ (W.cell? ⟨w6.heap.size + 1, 0, none⟩ = some (.int .i64 3) ∧ W.cell? ⟨w6.heap.size + 1, 1, none⟩ = some (.int .u32 7)) ∧ (W.cell? ⟨w8.heap.size, 0, none⟩ = some (.int .i64 2) ∧ W.cell? ⟨w8.heap.size, 1, none⟩ = some (.int .i64 0) ∧ W.cell? ⟨w8.heap.size, 2, none⟩ = some (.int .u32 0) ∧ W.cell? ⟨w8.heap.size, 3, none⟩ = some (.int .i64 3) ∧ W.cell? ⟨w8.heap.size, 4, none⟩ = some (.int .u32 7) ∧ W.cell? ⟨w8.heap.size, 5, none⟩ = some (.int .i64 0) ∧ W.cell? ⟨w8.heap.size, 6, none⟩ = some (.int .u32 0) ∧ W.cell? ⟨w8.heap.size, 7, none⟩ = some (.int .i64 0) ∧ W.cell? ⟨w8.heap.size, 8, none⟩ = some (.int .u32 0) ∧ W.cell? ⟨w8.heap.size, 9, none⟩ = some (.bool false))) (first | (with_reducible exact hz2) | (with_reducible exact hz1) | (with_reducible exact hz4 _) | (with_reducible exact hz3 _) | (exact hz0)) (first
    | (go_at_call 15; (with_reducible refine (EQ.out _ _ _ (R1.out.below (bup _ _)) _ (RN.out _)).mono ?_); rintro e u2 ⟨rfl, hb2⟩; have HBF := Lib.hid (bel2 S1.out (bel2 (bup _ _) hb2)); have hz2 := TC.out u2 HBF.out; clear hb2)
    | (go_at_call 15; (with_reducible refine (EQ.out _ _ _ R2.out _ L2.out).mono ?_); rintro e u2 ⟨rfl, hb2⟩; have HBF := Lib.hid (bel2 S2.out hb2); have hz2 := TC.out u2 HBF.out; clear hb2)
    | (go_at_call 16; (with_reducible refine (EX.out W9.drew).mono ?_); rintro e u1 ⟨q, c, rfl, hown, hb1⟩; have R1 := Lib.hid (RdR.of_own hown); have S1 := Lib.hid (bel2 D0.out hb1); have hz1 := TC.out u1 S1.out; have hz3 := fun x => TC.out (u1.alloc x) (bel2 S1.out (bup _ x)); clear hown hb1)
    | (go_at_call 16; (with_reducible refine (EX.out (W9.alloc _).drew).mono ?_); rintro e u1 ⟨q, c, rfl, hown, hb1⟩; have R2 := Lib.hid (RdR.of_own hown); have S2 := Lib.hid (bel2 (bel2 (bup W9 _) (bel_dr _)) hb1); have L2 := Lib.hid ((RN.out _).below (bel2 (bel_dr _) hb1)); have hz1 := TC.out u1 S2.out; clear hown hb1))
  all_goals
    have HBG := Lib.hid (bel2 HB9.out HBF.out)
    clear hz0 hz1 hz2 hz4
    go_wp2
    go_ret
    exact ⟨rfl, HBG.out⟩
end Go.Proofs.YtmbkhkijmfogcaaDoor
