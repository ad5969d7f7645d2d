/- The contract of the program's Set. -/
import Derived.Test.YtfnhkapbfgofkaaNe
import Derived.Deep.Cut
namespace Go.Proofs.Ytfnhkapbfgofkaa
open Go.RowKit

set_option maxHeartbeats 2000000 in
theorem set_ref (o : Ob) (i : Int) (r : Rf) (hrr : Rr r) (h : ¬ RfOk r) (w : World) : Calls Try.prog 50 #[obv o, .int .i64 i, rfv r] w fun e w' => e = .returned (.tuple #[obv (setR o i r).1, rfv (setR o i r).2.1, .int .i64 (setR o i r).2.2]) ∧ Below w.heap.size w w' := by
  have HC := Lib.hid (rcheck_bad r hrr h)
  have HV := Lib.hid (set_bad (o := o) (.inr h) i)
  obtain ⟨w2, hw2⟩ : ∃ w2, (((w.alloc (.cells (obc o) 53)).alloc (.cells (rfc r) 34)).alloc (.cells (obc ob0) 53)).alloc (.cells (rfc (0, 0)) 34) = w2 := ⟨_, rfl⟩
  obtain ⟨k1, k2, k3, k4, k5, k6⟩ := four_boxes w _ _ _ _ _ _ _ _ hw2
  have HB := Lib.hid (And.intro k1 (And.intro k2 (And.intro k3 (And.intro k4 (And.intro k5 k6)))))
  have HW := Lib.hid hw2
  unfold obv obc
  unfold rfv rfc at HC ⊢
  simp only [obc, rfc, ob0] at HW
  clear k1 k2 k3 k4 k5 k6 hw2 hrr h
  go_enter Try.func50, Try.ntmps50
  go_wp2_with fail
  rw [HW.out]
  refine (HC.out _).mono ?_
  rintro e w3 ⟨rfl, hb⟩
  obtain ⟨k1, k2, k3, k4, k5, k6⟩ := HB.out
  have HB2 := Lib.hid (bel2 k6 hb)
  obtain ⟨a0, a1, a2, a3, a4, a5, a6, a7, a8, a9⟩ := (k3.below hb).ob
  obtain ⟨f0, f1, f2, f3, f4, f5, f6, f7, f8, f9⟩ := (k3.below hb).ofz
  obtain ⟨b0, b1⟩ := (k4.below hb).rf
  obtain ⟨g0, g1⟩ := (k4.below hb).rfz
  simp only [ob0] at a0 a1 a2 a3 a4 a5 a6 a7 a8 a9 b0 b1
  have hsz := hb.size
  clear k1 k2 k3 k4 k6 hb
  go_wp2
  refine bodyPost_ret (v := .tuple #[.agg #[.int .i64 0, .int .i64 0, .int .u32 0, .int .i64 0, .int .u32 0, .int .i64 0, .int .u32 0, .int .i64 0, .int .u32 0, .bool false], .agg #[.int .i64 0, .int .u32 0], .int .i64 2]) ?_ rfl ⟨by rw [HV.out]; rfl, ?_⟩
  · simp [results, Try.f50, go_sem, *]
  · exact bel_two (bel10 HB2.out (by omega) _ _ _ _ _ _ _ _ _ _) (by omega) _ _

set_option maxHeartbeats 2000000 in
theorem set_err (o : Ob) (hr : Rg o) (i : Int) (hi : -9223372036854775808 ≤ i ∧ i ≤ 9223372036854775807) (r : Rf) (hok : RfOk r) (c : Int) (hc : c = 2 ∨ c = 3) (hg : getR o i = ((0, 0), c)) (hs : setR o i r = (ob0, (0, 0), c)) (w : World) :
    Calls Try.prog 50 #[obv o, .int .i64 i, rfv r] w fun e w' => e = .returned (.tuple #[obv (setR o i r).1, rfv (setR o i r).2.1, .int .i64 (setR o i r).2.2]) ∧ Below w.heap.size w w' := by
  have HC := Lib.hid (rcheck_ok r hok.rr hok)
  have HG := Lib.hid (get_any o hr i hi)
  rw [hg] at HG
  have HV := Lib.hid hs
  obtain ⟨w2, hw2⟩ : ∃ w2, (((w.alloc (.cells (obc o) 53)).alloc (.cells (rfc r) 34)).alloc (.cells (obc ob0) 53)).alloc (.cells (rfc (0, 0)) 34) = w2 := ⟨_, rfl⟩
  obtain ⟨k1, k2, k3, k4, k5, k6⟩ := four_boxes w _ _ _ _ _ _ _ _ hw2
  have HB := Lib.hid (And.intro k1 (And.intro k2 (And.intro k3 (And.intro k4 (And.intro k5 k6)))))
  have HW := Lib.hid hw2
  unfold obv obc at HG ⊢
  unfold rfv rfc at HC HG ⊢
  simp only [obc, rfc, ob0] at HW
  simp only at HG
  clear k1 k2 k3 k4 k5 k6 hw2 hok hr hg hs
  rcases hc with rfl | rfl
  all_goals
    go_enter Try.func50, Try.ntmps50
    go_wp2_with fail
    rw [HW.out]
    refine (HC.out _).mono ?_
    rintro e w3 ⟨rfl, hb⟩
    obtain ⟨k1, k2, k3, k4, k5, k6⟩ := HB.out
    have HB2 := Lib.hid (bel2 k6 hb)
    obtain ⟨a0, a1, a2, a3, a4, a5, a6, a7, a8, a9⟩ := (k1.below hb).ob
    have K3 := Lib.hid (k3.below hb)
    have K4 := Lib.hid (k4.below hb)
    have hsz := hb.size
    clear k1 k2 k3 k4 k6 hb
    go_wp2_with fail
    refine (HG.out _).mono ?_
    rintro e w5 ⟨rfl, hb⟩
    have HB3 := Lib.hid (bel2 HB2.out hb)
    clear a0 a1 a2 a3 a4 a5 a6 a7 a8 a9
    obtain ⟨w6, hw6⟩ : ∃ w6, w5.alloc (.cells #[.int .i64 0, .int .u32 0] 34) = w6 := ⟨_, rfl⟩
    have hal : Below w5.heap.size w5 w6 := by rw [← hw6]; exact (Below.refl _ _).alloc (Nat.le_refl _) _
    have HB4 := Lib.hid (bel2 HB3.out hal)
    have hb2 := bel2 hb hal
    obtain ⟨a0, a1, a2, a3, a4, a5, a6, a7, a8, a9⟩ := (K3.out.below hb2).ob
    obtain ⟨f0, f1, f2, f3, f4, f5, f6, f7, f8, f9⟩ := (K3.out.below hb2).ofz
    obtain ⟨b0, b1⟩ := (K4.out.below hb2).rf
    obtain ⟨g0, g1⟩ := (K4.out.below hb2).rfz
    simp only [ob0] at a0 a1 a2 a3 a4 a5 a6 a7 a8 a9 b0 b1
    have HW6 := Lib.hid hw6
    clear hb hal hb2 hw6
    go_upto_region 5 with fail
    rw [HW6.out]
    go_wp2
    refine bodyPost_ret (v := .tuple #[.agg #[.int .i64 0, .int .i64 0, .int .u32 0, .int .i64 0, .int .u32 0, .int .i64 0, .int .u32 0, .int .i64 0, .int .u32 0, .bool false], .agg #[.int .i64 0, .int .u32 0], .int .i64 _]) ?_ rfl ⟨by rw [HV.out]; rfl, ?_⟩
    · simp [results, Try.f50, go_sem, *]
    · exact bel_two (bel10 HB4.out (by omega) _ _ _ _ _ _ _ _ _ _) (by omega) _ _

theorem bel_dw {n : Nat} {w W : World} (h : Below n w W) : Below n w W.drew := h.trans ⟨rfl, rfl, rfl, Nat.le_refl _, fun _ _ => rfl⟩
theorem put_fld {W : World} {b : Nat} {t : TypeId} {o : Ob} (h : Bk W b t (obc o)) (r : Rf) {j : Nat} (hj : j < 4) :
    Bk ((W.setCell ⟨b, 1 + j * 2, none⟩ (.int .i64 r.1)).setCell ⟨b, 1 + j * 2 + 1, none⟩ (.int .u32 r.2)) b t (obc (o.upd r j)) := by
  have := (h.put (1 + j * 2) (.int .i64 r.1)).put (1 + j * 2 + 1) (.int .u32 r.2)
  rw [obc_put o r j hj] at this
  exact this
theorem Bk.other {W : World} {b c i : Nat} {t : TypeId} {cs : Array Value} {v : Value} (h : Bk W c t cs) (hne : c ≠ b) : Bk (W.setCell ⟨b, i, none⟩ v) c t cs := h.same (Below.heap_setCell _ _ _ _ hne)
set_option maxHeartbeats 4000000 in
theorem set_in (o : Ob) (hp : Poss o) (j : Nat) (hj : (j : Int) < o.n) (r : Rf) (hok : RfOk r) (w : World) :
    Calls Try.prog 50 #[obv o, .int .i64 (j : Int), rfv r] w fun e w' => e = .returned (.tuple #[obv (setR o j r).1, rfv (setR o j r).2.1, .int .i64 (setR o j r).2.2]) ∧ Below w.heap.size w w' := by
  have hn4 := hp.n4
  have hj4 : j < 4 := by omega
  have HC := Lib.hid (rcheck_ok r hok.rr hok)
  have HG := Lib.hid (get_any o hp.rg j (by omega))
  rw [get_ok hp ⟨by omega, hj⟩] at HG
  have HV := Lib.hid (set_ok hp hok (i := (j : Int)) ⟨by omega, hj⟩)
  obtain ⟨w2, hw2⟩ : ∃ w2, (((w.alloc (.cells (obc o) 53)).alloc (.cells (rfc r) 34)).alloc (.cells (obc ob0) 53)).alloc (.cells (rfc (0, 0)) 34) = w2 := ⟨_, rfl⟩
  obtain ⟨k1, k2, k3, k4, k5, k6⟩ := four_boxes w _ _ _ _ _ _ _ _ hw2
  have HB := Lib.hid (And.intro k1 (And.intro k2 (And.intro k3 (And.intro k4 (And.intro k5 k6)))))
  have HW := Lib.hid hw2
  unfold obv obc at HG ⊢
  unfold rfv rfc at HC HG ⊢
  simp only [obc, rfc, ob0] at HW
  simp only [Int.toNat_natCast] at HG HV
  obtain ⟨q, hq⟩ : ∃ q : Ob, o.upd r j = q := ⟨_, rfl⟩
  obtain ⟨⟨s, g⟩, hsg⟩ : ∃ u : Rf, o.fld j = u := ⟨_, rfl⟩
  rw [hsg] at HG HV
  rw [hq] at HV
  simp only at HG
  have HQ := Lib.hid hq
  clear k1 k2 k3 k4 k5 k6 hw2 hok hp hq hsg
  go_enter Try.func50, Try.ntmps50
  go_wp2_with fail
  rw [HW.out]
  refine (HC.out _).mono ?_
  rintro e w3 ⟨rfl, hb⟩
  obtain ⟨k1, k2, k3, k4, k5, k6⟩ := HB.out
  have HB2 := Lib.hid (bel2 k6 hb)
  obtain ⟨a0, a1, a2, a3, a4, a5, a6, a7, a8, a9⟩ := (k1.below hb).ob
  have K1 := Lib.hid (k1.below hb)
  have K2 := Lib.hid (k2.below hb)
  have K3 := Lib.hid (k3.below hb)
  have K4 := Lib.hid (k4.below hb)
  have hsz := hb.size
  clear k1 k2 k3 k4 k6 hb
  go_wp2_with fail
  refine (HG.out _).mono ?_
  rintro e w5 ⟨rfl, hb⟩
  have HB3 := Lib.hid (bel2 HB2.out hb)
  have hsz5 := hb.size
  clear a0 a1 a2 a3 a4 a5 a6 a7 a8 a9
  obtain ⟨w6, hw6⟩ : ∃ w6, w5.alloc (.cells #[.int .i64 s, .int .u32 g] 34) = w6 := ⟨_, rfl⟩
  have hal : Below w5.heap.size w5 w6 := by rw [← hw6]; exact (Below.refl _ _).alloc (Nat.le_refl _) _
  have kn : Bk w6 w5.heap.size 34 (rfc (s, g)) := by rw [← hw6]; exact Bk.new _ _ _
  have HB4 := Lib.hid (bel2 HB3.out hal)
  have hb2 := bel2 hb hal
  have K1' := Lib.hid (K1.out.below hb2)
  have K3' := Lib.hid (K3.out.below hb2)
  have K4' := Lib.hid (K4.out.below hb2)
  have KN := Lib.hid kn
  obtain ⟨r0, r1⟩ := (K2.out.below hb2).rf
  have s0 := (K1'.out.cell (1 + j * 2)).trans (obc_s o j hj4)
  have s1 := (K1'.out.cell (1 + j * 2 + 1)).trans (obc_g o j hj4)
  have fz0 := K1'.out.frozen (1 + j * 2)
  have fz1 := K1'.out.frozen (1 + j * 2 + 1)
  have HW6 := Lib.hid hw6
  have hsz6 : w6.heap.size = w5.heap.size + 1 := by rw [← hw6, World.size_alloc]
  clear hb hal hb2 hw6 kn
  go_upto_region 5 with fail
  rw [HW6.out]
  go_upto_region 8 with fail
  obtain ⟨W7, hW7⟩ : ∃ W7, (w6.setCell ⟨w.heap.size, 1 + j * 2, none⟩ (.int .i64 r.1)).setCell ⟨w.heap.size, 1 + j * 2 + 1, none⟩ (.int .u32 r.2) = W7 := ⟨_, rfl⟩
  have L1 : Bk W7 w.heap.size 53 (obc q) := by rw [← hW7, ← HQ.out]; exact put_fld K1'.out r hj4
  have L3 : Bk W7 (w.heap.size + 2) 53 (obc ob0) := by rw [← hW7]; exact (K3'.out.other (by omega)).other (by omega)
  have L4 : Bk W7 (w.heap.size + 3) 34 (rfc (0, 0)) := by rw [← hW7]; exact (K4'.out.other (by omega)).other (by omega)
  have LN : Bk W7 w5.heap.size 34 (rfc (s, g)) := by rw [← hW7]; exact (KN.out.other (by omega)).other (by omega)
  have HB7 : Hid (Below w.heap.size w W7) := by unfold Hid; rw [← hW7]; exact (HB4.out.setCell (p := ⟨w.heap.size, 1 + j * 2, none⟩) (Nat.le_refl _) _).setCell (p := ⟨w.heap.size, 1 + j * 2 + 1, none⟩) (Nat.le_refl _) _
  rw [hW7]
  obtain ⟨a0, a1, a2, a3, a4, a5, a6, a7, a8, a9⟩ := L3.ob
  obtain ⟨f0, f1, f2, f3, f4, f5, f6, f7, f8, f9⟩ := L3.ofz
  obtain ⟨b0, b1⟩ := L4.rf
  obtain ⟨g0, g1⟩ := L4.rfz
  obtain ⟨c0, c1, c2, c3, c4, c5, c6, c7, c8, c9⟩ := L1.ob
  obtain ⟨d0, d1⟩ := LN.rf
  simp only [ob0] at a0 a1 a2 a3 a4 a5 a6 a7 a8 a9 b0 b1 c0 c1 c2 c3 c4 c5 c6 c7 c8 c9 d0 d1
  clear hW7 L1 L3 L4 LN s0 s1 fz0 fz1 r0 r1
  go_region
  all_goals
    go_wp2
    refine bodyPost_ret (v := .tuple #[.agg #[.int .i64 q.n, .int .i64 q.a.1, .int .u32 q.a.2, .int .i64 q.b.1, .int .u32 q.b.2, .int .i64 q.c.1, .int .u32 q.c.2, .int .i64 q.d.1, .int .u32 q.d.2, .bool q.h], .agg #[.int .i64 s, .int .u32 g], .int .i64 0]) ?_ rfl ⟨by rw [HV.out], ?_⟩
    · simp [results, Try.f50, go_sem, *]
    · exact bel_dw (bel_two (bel10 HB7.out (by omega) _ _ _ _ _ _ _ _ _ _) (by omega) _ _)
theorem set_any (o : Ob) (hr : Rg o) (i : Int) (hi : -9223372036854775808 ≤ i ∧ i ≤ 9223372036854775807) (r : Rf) (hrr : Rr r) (w : World) :
    Calls Try.prog 50 #[obv o, .int .i64 i, rfv r] w fun e w' => e = .returned (.tuple #[obv (setR o i r).1, rfv (setR o i r).2.1, .int .i64 (setR o i r).2.2]) ∧ Below w.heap.size w w' := by
  by_cases h : RfOk r
  · by_cases hp : Poss o
    · by_cases h1 : 0 ≤ i ∧ i < o.n
      · obtain ⟨j, rfl⟩ : ∃ j : Nat, i = j := ⟨i.toNat, by omega⟩
        exact set_in o hp j h1.2 r h w
      · exact set_err o hr i hi r h 3 (.inr rfl) (get_out hp (by omega)) (set_out hp h (by omega)) w
    · exact set_err o hr i hi r h 2 (.inl rfl) (get_bad hp i) (set_bad (.inl hp) i) w
  · exact set_ref o i r hrr h w
end Go.Proofs.Ytfnhkapbfgofkaa
