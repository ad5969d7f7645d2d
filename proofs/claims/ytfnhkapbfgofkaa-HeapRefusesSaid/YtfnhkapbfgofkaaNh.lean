/- The contracts of the document's New, Get and Set. -/
import Derived.Test.YtfnhkapbfgofkaaNg
import Derived.Deep.Cut
namespace Go.Proofs.Ytfnhkapbfgofkaa
open Go.RowKit

set_option maxHeartbeats 1000000 in
theorem dnew_any (n : Int) (hn : -9223372036854775808 ≤ n ∧ n ≤ 9223372036854775807) (h : Bool) (w : World) : Calls Try.prog 39 #[.int .i64 n, .bool h] w fun e w' => e = .returned (.tuple #[obv (newR n h).1, .int .i64 (newR n h).2]) ∧ Below w.heap.size w w' := by
  have hrg : Rg (mk n h) := ⟨hn.1, hn.2, fun j _ => by rw [mk_fld]; exact rfok_none.rr⟩
  have HC := Lib.hid (dcheck_any (mk n h) hrg)
  obtain ⟨w2, hw2⟩ : ∃ w2, (w.alloc (.cells (obc ob0) 86)).alloc (.cells (obc (mk n h)) 86) = w2 := ⟨_, rfl⟩
  obtain ⟨k1, k2, k3, k4⟩ := two_boxes w _ _ _ _ hw2
  have HB := Lib.hid (And.intro k1 (And.intro k2 (And.intro k3 k4)))
  have HW := Lib.hid hw2
  obtain ⟨ck, hck⟩ : ∃ ck, chk (mk n h) = ck := ⟨_, rfl⟩
  rw [hck] at HC
  simp only [obv, obc, mk] at HC
  simp only [obc, ob0, mk] at HW
  clear k1 k2 k3 k4 hw2
  by_cases hp : Poss (mk n h)
  · obtain rfl : ck = 0 := hck.symm.trans (chk_ok hp)
    have HV := Lib.hid (new_okF hp)
    clear hck hp hrg
    go_enter Try.func39, Try.ntmps39
    go_wp2_with fail
    rw [HW.out]
    refine (HC.out _).mono ?_
    rintro e w3 ⟨rfl, hb⟩
    obtain ⟨k1, k2, k3, k4⟩ := HB.out
    have HB2 := Lib.hid (bel2 k4 hb)
    obtain ⟨a0, a1, a2, a3, a4, a5, a6, a7, a8, a9⟩ := (k1.below hb).ob
    obtain ⟨f0, f1, f2, f3, f4, f5, f6, f7, f8, f9⟩ := (k1.below hb).ofz
    obtain ⟨b0, b1, b2, b3, b4, b5, b6, b7, b8, b9⟩ := (k2.below hb).ob
    simp only [ob0, mk] at a0 a1 a2 a3 a4 a5 a6 a7 a8 a9 b0 b1 b2 b3 b4 b5 b6 b7 b8 b9
    have hsz := hb.size
    clear k1 k2 k4 hb
    go_wp2
    refine bodyPost_ret (v := .tuple #[.agg #[.int .i64 n, .int .i64 0, .int .u32 0, .int .i64 0, .int .u32 0, .int .i64 0, .int .u32 0, .int .i64 0, .int .u32 0, .bool h], .int .i64 0]) ?_ rfl ⟨by rw [HV.out]; rfl, ?_⟩
    · rw [results_cell_tmp rfl]
      go_simp
    · exact bel10 HB2.out (Nat.le_refl _) _ _ _ _ _ _ _ _ _ _
  · obtain rfl : ck = 2 := hck.symm.trans (chk_bad hp)
    have HV := Lib.hid (new_bad hp)
    clear hck hp hrg
    go_enter Try.func39, Try.ntmps39
    go_wp2_with fail
    rw [HW.out]
    refine (HC.out _).mono ?_
    rintro e w3 ⟨rfl, hb⟩
    obtain ⟨k1, k2, k3, k4⟩ := HB.out
    have HB2 := Lib.hid (bel2 k4 hb)
    obtain ⟨a0, a1, a2, a3, a4, a5, a6, a7, a8, a9⟩ := (k1.below hb).ob
    obtain ⟨f0, f1, f2, f3, f4, f5, f6, f7, f8, f9⟩ := (k1.below hb).ofz
    simp only [ob0] at a0 a1 a2 a3 a4 a5 a6 a7 a8 a9
    have hsz := hb.size
    clear k1 k2 k4 hb
    go_wp2
    refine bodyPost_ret (v := .tuple #[.agg #[.int .i64 0, .int .i64 0, .int .u32 0, .int .i64 0, .int .u32 0, .int .i64 0, .int .u32 0, .int .i64 0, .int .u32 0, .bool false], .int .i64 2]) ?_ rfl ⟨by rw [HV.out]; rfl, ?_⟩
    · rw [results_cell_tmp rfl]
      go_simp
    · exact bel10 HB2.out (Nat.le_refl _) _ _ _ _ _ _ _ _ _ _

set_option maxHeartbeats 1000000 in
theorem dget_any (o : Ob) (hr : Rg o) (i : Int) (hi : -9223372036854775808 ≤ i ∧ i ≤ 9223372036854775807) (w : World) : Calls Try.prog 47 #[obv o, .int .i64 i] w fun e w' => e = .returned (.tuple #[rfv (getR o i).1, .int .i64 (getR o i).2]) ∧ Below w.heap.size w w' := by
  have HC := Lib.hid (dcheck_any o hr)
  obtain ⟨w2, hw2⟩ : ∃ w2, (w.alloc (.cells (obc o) 86)).alloc (.cells (rfc (0, 0)) 34) = w2 := ⟨_, rfl⟩
  obtain ⟨k1, k2, k3, k4⟩ := two_boxes w _ _ _ _ hw2
  have HB := Lib.hid (And.intro k1 (And.intro k2 (And.intro k3 k4)))
  have HW := Lib.hid hw2
  obtain ⟨ck, hck⟩ : ∃ ck, chk o = ck := ⟨_, rfl⟩
  rw [hck] at HC
  unfold obv obc at HC ⊢
  simp only [obc, rfc] at HW
  clear k1 k2 k3 k4 hw2
  have hi1 := hi.1
  have hi2 := hi.2
  have hn1 := hr.n1
  have hn2 := hr.n2
  by_cases hp : Poss o
  · obtain rfl : ck = 0 := hck.symm.trans (chk_ok hp)
    have hn0 := hp.n0
    have hn4 := hp.n4
    by_cases h1 : i < 0
    · have HV := Lib.hid (get_out hp (.inl h1))
      clear hck hp hr hi
      go_enter Try.func47, Try.ntmps47
      go_wp2_with fail
      rw [HW.out]
      refine (HC.out _).mono ?_
      rintro e w3 ⟨rfl, hb⟩
      obtain ⟨k1, k2, k3, k4⟩ := HB.out
      have HB2 := Lib.hid (bel2 k4 hb)
      obtain ⟨a0, a1, a2, a3, a4, a5, a6, a7, a8, a9⟩ := (k1.below hb).ob
      obtain ⟨b0, b1⟩ := (k2.below hb).rf
      obtain ⟨f0, f1⟩ := (k2.below hb).rfz
      simp only at b0 b1
      have hsz := hb.size
      clear k1 k2 k4 hb
      go_wp2
      refine bodyPost_ret (v := .tuple #[.agg #[.int .i64 0, .int .u32 0], .int .i64 3]) ?_ rfl ⟨by rw [HV.out]; rfl, ?_⟩
      · rw [results_cell_tmp rfl]
        go_simp
      · exact bel_two HB2.out (by omega) _ _
    · by_cases h2 : o.n ≤ i
      · have HV := Lib.hid (get_out hp (.inr h2))
        clear hck hp hr hi
        go_enter Try.func47, Try.ntmps47
        go_wp2_with fail
        rw [HW.out]
        refine (HC.out _).mono ?_
        rintro e w3 ⟨rfl, hb⟩
        obtain ⟨k1, k2, k3, k4⟩ := HB.out
        have HB2 := Lib.hid (bel2 k4 hb)
        obtain ⟨a0, a1, a2, a3, a4, a5, a6, a7, a8, a9⟩ := (k1.below hb).ob
        obtain ⟨b0, b1⟩ := (k2.below hb).rf
        obtain ⟨f0, f1⟩ := (k2.below hb).rfz
        simp only at b0 b1
        have hsz := hb.size
        clear k1 k2 k4 hb
        go_wp2
        refine bodyPost_ret (v := .tuple #[.agg #[.int .i64 0, .int .u32 0], .int .i64 3]) ?_ rfl ⟨by rw [HV.out]; rfl, ?_⟩
        · rw [results_cell_tmp rfl]
          go_simp
        · exact bel_two HB2.out (by omega) _ _
      · obtain ⟨j, rfl⟩ : ∃ j : Nat, i = j := ⟨i.toNat, by omega⟩
        have hj4 : j < 4 := by omega
        have hjn : (j : Int) < o.n := by omega
        have HV := Lib.hid (get_ok hp ⟨by omega, hjn⟩)
        clear hck hp hr hi h1 h2
        go_enter Try.func47, Try.ntmps47
        go_wp2_with fail
        rw [HW.out]
        refine (HC.out _).mono ?_
        rintro e w3 ⟨rfl, hb⟩
        obtain ⟨k1, k2, k3, k4⟩ := HB.out
        have HB2 := Lib.hid (bel2 k4 hb)
        have a0 := (k1.below hb).ob.1
        have s0 := ((k1.below hb).cell (1 + j * 2)).trans (obc_s o j hj4)
        have s1 := ((k1.below hb).cell (1 + j * 2 + 1)).trans (obc_g o j hj4)
        obtain ⟨b0, b1⟩ := (k2.below hb).rf
        obtain ⟨f0, f1⟩ := (k2.below hb).rfz
        simp only at b0 b1
        have hsz := hb.size
        clear k1 k2 k4 hb
        go_wp2
        refine bodyPost_ret (v := .tuple #[.agg #[.int .i64 (o.fld j).1, .int .u32 (o.fld j).2], .int .i64 0]) ?_ rfl ⟨by rw [HV.out]; rfl, ?_⟩
        · rw [results_cell_tmp rfl]
          go_simp
        · exact bel_two HB2.out (by omega) _ _
  · obtain rfl : ck = 2 := hck.symm.trans (chk_bad hp)
    have HV := Lib.hid (get_bad hp i)
    clear hck hp hr hi
    go_enter Try.func47, Try.ntmps47
    go_wp2_with fail
    rw [HW.out]
    refine (HC.out _).mono ?_
    rintro e w3 ⟨rfl, hb⟩
    obtain ⟨k1, k2, k3, k4⟩ := HB.out
    have HB2 := Lib.hid (bel2 k4 hb)
    obtain ⟨b0, b1⟩ := (k2.below hb).rf
    obtain ⟨f0, f1⟩ := (k2.below hb).rfz
    simp only at b0 b1
    have hsz := hb.size
    clear k1 k2 k4 hb
    go_wp2
    refine bodyPost_ret (v := .tuple #[.agg #[.int .i64 0, .int .u32 0], .int .i64 2]) ?_ rfl ⟨by rw [HV.out]; rfl, ?_⟩
    · rw [results_cell_tmp rfl]
      go_simp
    · exact bel_two HB2.out (by omega) _ _

set_option maxHeartbeats 2000000 in
theorem dset_bad' (o : Ob) (hr : Rg o) (i : Int) (r : Rf) (hrr : Rr r) (h : ¬ Poss o ∨ ¬ RfOk r) (w : World) : Calls Try.prog 51 #[obv o, .int .i64 i, rfv r] w fun e w' => e = .returned (.tuple #[obv (setR o i r).1, rfv (setR o i r).2.1, .int .i64 (setR o i r).2.2]) ∧ Below w.heap.size w w' := by
  have HC := Lib.hid (dcheck_any o hr)
  have HWR := Lib.hid (wrong_ok r hrr)
  have HV := Lib.hid (set_bad (o := o) h i)
  obtain ⟨w2, hw2⟩ : ∃ w2, (((w.alloc (.cells (obc o) 86)).alloc (.cells (rfc r) 34)).alloc (.cells (obc ob0) 86)).alloc (.cells (rfc (0, 0)) 34) = w2 := ⟨_, rfl⟩
  obtain ⟨k1, k2, k3, k4, k5, k6⟩ := four_boxes w _ _ _ _ _ _ _ _ hw2
  have HB := Lib.hid (And.intro k1 (And.intro k2 (And.intro k3 (And.intro k4 (And.intro k5 k6)))))
  have HW := Lib.hid hw2
  have h2 : chk o = 2 ∨ (chk o = 0 ∧ wrongB r = true) := by
    by_cases hp : Poss o
    · exact .inr ⟨chk_ok hp, wrong_yes (h.resolve_left fun e => e hp)⟩
    · exact .inl (chk_bad hp)
  unfold obv obc at HC ⊢
  unfold rfv rfc at HWR ⊢
  simp only [obc, rfc, ob0] at HW
  clear k1 k2 k3 k4 k5 k6 hw2 hrr h hr
  rcases h2 with h2 | ⟨h2, h3⟩
  · rw [h2] at HC
    clear h2 HWR
    go_enter Try.func51, Try.ntmps51
    go_wp2_with fail
    rw [HW.out]
    refine (HC.out _).mono ?_
    rintro e w3 ⟨rfl, hb⟩
    obtain ⟨k1, k2, k3, k4, k5, k6⟩ := HB.out
    have HB2 := Lib.hid (bel2 k6 hb)
    obtain ⟨a0, a1, a2, a3, a4, a5, a6, a7, a8, a9⟩ := (k3.below hb).ob
    obtain ⟨f0, f1, f2, f3, f4, f5, f6, f7, f8, f9⟩ := (k3.below hb).ofz
    obtain ⟨b0, b1⟩ := (k4.below hb).rf
    obtain ⟨g0, g1⟩ := (k4.below hb).rfz
    simp only [ob0] at a0 a1 a2 a3 a4 a5 a6 a7 a8 a9 b0 b1
    have hsz := hb.size
    clear k1 k2 k3 k4 k6 hb
    go_wp2
    refine bodyPost_ret (v := .tuple #[.agg #[.int .i64 0, .int .i64 0, .int .u32 0, .int .i64 0, .int .u32 0, .int .i64 0, .int .u32 0, .int .i64 0, .int .u32 0, .bool false], .agg #[.int .i64 0, .int .u32 0], .int .i64 2]) ?_ rfl ⟨by rw [HV.out]; rfl, ?_⟩
    · simp [results, Try.f51, go_sem, *]
    · exact bel_two (bel10 HB2.out (by omega) _ _ _ _ _ _ _ _ _ _) (by omega) _ _
  · rw [h2] at HC
    rw [h3] at HWR
    clear h2 h3
    go_enter Try.func51, Try.ntmps51
    go_wp2_with fail
    rw [HW.out]
    refine (HC.out _).mono ?_
    rintro e w3 ⟨rfl, hb⟩
    obtain ⟨k1, k2, k3, k4, k5, k6⟩ := HB.out
    obtain ⟨r0, r1⟩ := (k2.below hb).rf
    go_wp2_with fail
    refine (HWR.out _).mono ?_
    rintro e w4 ⟨rfl, hb4⟩
    have hb := bel2 hb hb4
    have HB2 := Lib.hid (bel2 k6 hb)
    obtain ⟨a0, a1, a2, a3, a4, a5, a6, a7, a8, a9⟩ := (k3.below hb).ob
    obtain ⟨f0, f1, f2, f3, f4, f5, f6, f7, f8, f9⟩ := (k3.below hb).ofz
    obtain ⟨b0, b1⟩ := (k4.below hb).rf
    obtain ⟨g0, g1⟩ := (k4.below hb).rfz
    simp only [ob0] at a0 a1 a2 a3 a4 a5 a6 a7 a8 a9 b0 b1
    have hsz := hb.size
    clear k1 k2 k3 k4 k6 hb hb4 r0 r1
    go_wp2
    refine bodyPost_ret (v := .tuple #[.agg #[.int .i64 0, .int .i64 0, .int .u32 0, .int .i64 0, .int .u32 0, .int .i64 0, .int .u32 0, .int .i64 0, .int .u32 0, .bool false], .agg #[.int .i64 0, .int .u32 0], .int .i64 2]) ?_ rfl ⟨by rw [HV.out]; rfl, ?_⟩
    · simp [results, Try.f51, go_sem, *]
    · exact bel_two (bel10 HB2.out (by omega) _ _ _ _ _ _ _ _ _ _) (by omega) _ _

set_option maxHeartbeats 2000000 in
theorem dset_out' (o : Ob) (hp : Poss o) (i : Int) (hi : -9223372036854775808 ≤ i ∧ i ≤ 9223372036854775807) (r : Rf) (hok : RfOk r) (hio : i < 0 ∨ o.n ≤ i) (w : World) :
    Calls Try.prog 51 #[obv o, .int .i64 i, rfv r] w fun e w' => e = .returned (.tuple #[obv (setR o i r).1, rfv (setR o i r).2.1, .int .i64 (setR o i r).2.2]) ∧ Below w.heap.size w w' := by
  have hn0 := hp.n0
  have hn4 := hp.n4
  have HC := Lib.hid (dcheck_any o hp.rg)
  rw [chk_ok hp] at HC
  have HWR := Lib.hid (wrong_ok r hok.rr)
  rw [wrong_no hok] at HWR
  have HV := Lib.hid (set_out hp hok hio)
  obtain ⟨w2, hw2⟩ : ∃ w2, (((w.alloc (.cells (obc o) 86)).alloc (.cells (rfc r) 34)).alloc (.cells (obc ob0) 86)).alloc (.cells (rfc (0, 0)) 34) = w2 := ⟨_, rfl⟩
  obtain ⟨k1, k2, k3, k4, k5, k6⟩ := four_boxes w _ _ _ _ _ _ _ _ hw2
  have HB := Lib.hid (And.intro k1 (And.intro k2 (And.intro k3 (And.intro k4 (And.intro k5 k6)))))
  have HW := Lib.hid hw2
  have hio2 : i < 0 ∨ (0 ≤ i ∧ o.n ≤ i) := by omega
  have hi1 := hi.1
  have hi2 := hi.2
  unfold obv obc at HC ⊢
  unfold rfv rfc at HWR ⊢
  simp only [obc, rfc, ob0] at HW
  clear k1 k2 k3 k4 k5 k6 hw2 hok hp hio hi
  rcases hio2 with h2 | ⟨h2, h3⟩
  all_goals
    go_enter Try.func51, Try.ntmps51
    go_wp2_with fail
    rw [HW.out]
    refine (HC.out _).mono ?_
    rintro e w3 ⟨rfl, hb⟩
    obtain ⟨k1, k2, k3, k4, k5, k6⟩ := HB.out
    obtain ⟨r0, r1⟩ := (k2.below hb).rf
    go_wp2_with fail
    refine (HWR.out _).mono ?_
    rintro e w4 ⟨rfl, hb4⟩
    have hb := bel2 hb hb4
    have HB2 := Lib.hid (bel2 k6 hb)
    have c0 := (k1.below hb).ob.1
    obtain ⟨a0, a1, a2, a3, a4, a5, a6, a7, a8, a9⟩ := (k3.below hb).ob
    obtain ⟨f0, f1, f2, f3, f4, f5, f6, f7, f8, f9⟩ := (k3.below hb).ofz
    obtain ⟨b0, b1⟩ := (k4.below hb).rf
    obtain ⟨g0, g1⟩ := (k4.below hb).rfz
    simp only [ob0] at a0 a1 a2 a3 a4 a5 a6 a7 a8 a9 b0 b1
    have hsz := hb.size
    clear k1 k2 k3 k4 k6 hb hb4 r0 r1
    go_wp2
    refine bodyPost_ret (v := .tuple #[.agg #[.int .i64 0, .int .i64 0, .int .u32 0, .int .i64 0, .int .u32 0, .int .i64 0, .int .u32 0, .int .i64 0, .int .u32 0, .bool false], .agg #[.int .i64 0, .int .u32 0], .int .i64 3]) ?_ rfl ⟨by rw [HV.out]; rfl, ?_⟩
    · simp [results, Try.f51, go_sem, *]
    · exact bel_two (bel10 HB2.out (by omega) _ _ _ _ _ _ _ _ _ _) (by omega) _ _

set_option maxHeartbeats 4000000 in
theorem dset_in (o : Ob) (hp : Poss o) (j : Nat) (hj : (j : Int) < o.n) (r : Rf) (hok : RfOk r) (w : World) :
    Calls Try.prog 51 #[obv o, .int .i64 (j : Int), rfv r] w fun e w' => e = .returned (.tuple #[obv (setR o j r).1, rfv (setR o j r).2.1, .int .i64 (setR o j r).2.2]) ∧ Below w.heap.size w w' := by
  have hn4 := hp.n4
  have hj4 : j < 4 := by omega
  have hn0 := hp.n0
  have HC := Lib.hid (dcheck_any o hp.rg)
  rw [chk_ok hp] at HC
  have HWR := Lib.hid (wrong_ok r hok.rr)
  rw [wrong_no hok] at HWR
  have HV := Lib.hid (set_ok hp hok (i := (j : Int)) ⟨by omega, hj⟩)
  obtain ⟨w2, hw2⟩ : ∃ w2, (((w.alloc (.cells (obc o) 86)).alloc (.cells (rfc r) 34)).alloc (.cells (obc ob0) 86)).alloc (.cells (rfc (0, 0)) 34) = w2 := ⟨_, rfl⟩
  obtain ⟨k1, k2, k3, k4, k5, k6⟩ := four_boxes w _ _ _ _ _ _ _ _ hw2
  have HB := Lib.hid (And.intro k1 (And.intro k2 (And.intro k3 (And.intro k4 (And.intro k5 k6)))))
  have HW := Lib.hid hw2
  unfold obv obc at HC ⊢
  unfold rfv rfc at HWR ⊢
  simp only [obc, rfc, ob0] at HW
  simp only [Int.toNat_natCast] at HV
  obtain ⟨q, hq⟩ : ∃ q : Ob, o.upd r j = q := ⟨_, rfl⟩
  obtain ⟨⟨s, g⟩, hsg⟩ : ∃ u : Rf, o.fld j = u := ⟨_, rfl⟩
  rw [hsg] at HV
  rw [hq] at HV
  have HQ := Lib.hid hq
  have HSG := Lib.hid hsg
  clear k1 k2 k3 k4 k5 k6 hw2 hok hp hq hsg
  go_enter Try.func51, Try.ntmps51
  go_wp2_with fail
  rw [HW.out]
  refine (HC.out _).mono ?_
  rintro e w3 ⟨rfl, hb⟩
  obtain ⟨k1, k2, k3, k4, k5, k6⟩ := HB.out
  obtain ⟨r0, r1⟩ := (k2.below hb).rf
  go_wp2_with fail
  refine (HWR.out _).mono ?_
  rintro e w5 ⟨rfl, hb4⟩
  have hb := bel2 hb hb4
  have HB3 := Lib.hid (bel2 k6 hb)
  have K1 := Lib.hid (k1.below hb)
  have K2 := Lib.hid (k2.below hb)
  have K3 := Lib.hid (k3.below hb)
  have K4 := Lib.hid (k4.below hb)
  have hsz := hb.size
  clear k1 k2 k3 k4 k6 hb hb4 r0 r1
  have c0 := K1.out.ob.1
  have e0 := (K1.out.cell (1 + j * 2)).trans (obc_s o j hj4)
  have e1 := (K1.out.cell (1 + j * 2 + 1)).trans (obc_g o j hj4)
  rw [HSG.out] at e0 e1
  simp only at e0 e1
  obtain ⟨w6, hw6⟩ : ∃ w6, w5.alloc (.cells #[.int .i64 s, .int .u32 g] 34) = w6 := ⟨_, rfl⟩
  have hal : Below w5.heap.size w5 w6 := by rw [← hw6]; exact (Below.refl _ _).alloc (Nat.le_refl _) _
  have kn : Bk w6 w5.heap.size 34 (rfc (s, g)) := by rw [← hw6]; exact Bk.new _ _ _
  have HB4 := Lib.hid (bel2 HB3.out hal)
  have hb2 := hal
  have K1' := Lib.hid (K1.out.below hb2)
  have K3' := Lib.hid (K3.out.below hb2)
  have K4' := Lib.hid (K4.out.below hb2)
  have KN := Lib.hid kn
  obtain ⟨r0, r1⟩ := (K2.out.below hb2).rf
  have s0 := (K1'.out.cell (1 + j * 2)).trans (obc_s o j hj4)
  have s1 := (K1'.out.cell (1 + j * 2 + 1)).trans (obc_g o j hj4)
  have fz0 := K1'.out.frozen (1 + j * 2)
  have fz1 := K1'.out.frozen (1 + j * 2 + 1)
  have HW6 := Lib.hid hw6
  have hsz6 : w6.heap.size = w5.heap.size + 1 := by rw [← hw6, World.size_alloc]
  clear hal hb2 hw6 kn
  go_upto_region 6 with fail
  rw [HW6.out]
  clear c0 e0 e1
  go_upto_region 7 with fail
  obtain ⟨W7, hW7⟩ : ∃ W7, (w6.setCell ⟨w.heap.size, 1 + j * 2, none⟩ (.int .i64 r.1)).setCell ⟨w.heap.size, 1 + j * 2 + 1, none⟩ (.int .u32 r.2) = W7 := ⟨_, rfl⟩
  have L1 : Bk W7 w.heap.size 86 (obc q) := by rw [← hW7, ← HQ.out]; exact put_fld K1'.out r hj4
  have L3 : Bk W7 (w.heap.size + 2) 86 (obc ob0) := by rw [← hW7]; exact (K3'.out.other (by omega)).other (by omega)
  have L4 : Bk W7 (w.heap.size + 3) 34 (rfc (0, 0)) := by rw [← hW7]; exact (K4'.out.other (by omega)).other (by omega)
  have LN : Bk W7 w5.heap.size 34 (rfc (s, g)) := by rw [← hW7]; exact (KN.out.other (by omega)).other (by omega)
  have HB7 : Hid (Below w.heap.size w W7) := by unfold Hid; rw [← hW7]; exact (HB4.out.setCell (p := ⟨w.heap.size, 1 + j * 2, none⟩) (Nat.le_refl _) _).setCell (p := ⟨w.heap.size, 1 + j * 2 + 1, none⟩) (Nat.le_refl _) _
  rw [hW7]
  obtain ⟨a0, a1, a2, a3, a4, a5, a6, a7, a8, a9⟩ := L3.ob
  obtain ⟨f0, f1, f2, f3, f4, f5, f6, f7, f8, f9⟩ := L3.ofz
  obtain ⟨b0, b1⟩ := L4.rf
  obtain ⟨g0, g1⟩ := L4.rfz
  obtain ⟨c0, c1, c2, c3, c4, c5, c6, c7, c8, c9⟩ := L1.ob
  obtain ⟨d0, d1⟩ := LN.rf
  simp only [ob0] at a0 a1 a2 a3 a4 a5 a6 a7 a8 a9 b0 b1 c0 c1 c2 c3 c4 c5 c6 c7 c8 c9 d0 d1
  clear hW7 L1 L3 L4 LN s0 s1 fz0 fz1 r0 r1
  go_region
  all_goals
    go_wp2
    refine bodyPost_ret (v := .tuple #[.agg #[.int .i64 q.n, .int .i64 q.a.1, .int .u32 q.a.2, .int .i64 q.b.1, .int .u32 q.b.2, .int .i64 q.c.1, .int .u32 q.c.2, .int .i64 q.d.1, .int .u32 q.d.2, .bool q.h], .agg #[.int .i64 s, .int .u32 g], .int .i64 0]) ?_ rfl ⟨by rw [HV.out], ?_⟩
    · simp [results, Try.f51, go_sem, *]
    · exact bel_dw (bel_two (bel10 HB7.out (by omega) _ _ _ _ _ _ _ _ _ _) (by omega) _ _)
theorem dset_any (o : Ob) (hr : Rg o) (i : Int) (hi : -9223372036854775808 ≤ i ∧ i ≤ 9223372036854775807) (r : Rf) (hrr : Rr r) (w : World) :
    Calls Try.prog 51 #[obv o, .int .i64 i, rfv r] w fun e w' => e = .returned (.tuple #[obv (setR o i r).1, rfv (setR o i r).2.1, .int .i64 (setR o i r).2.2]) ∧ Below w.heap.size w w' := by
  by_cases h : RfOk r
  · by_cases hp : Poss o
    · by_cases h1 : 0 ≤ i ∧ i < o.n
      · obtain ⟨j, rfl⟩ : ∃ j : Nat, i = j := ⟨i.toNat, by omega⟩
        exact dset_in o hp j h1.2 r h w
      · exact dset_out' o hp i hi r h (by omega) w
    · exact dset_bad' o hr i r hrr (.inl hp) w
  · exact dset_bad' o hr i r hrr (.inr h) w
end Go.Proofs.Ytfnhkapbfgofkaa
