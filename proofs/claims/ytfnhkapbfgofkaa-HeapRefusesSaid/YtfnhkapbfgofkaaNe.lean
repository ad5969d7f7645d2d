/- The contracts of the program's New, Get and Set. -/
import Derived.Test.YtfnhkapbfgofkaaNd
namespace Go.Proofs.Ytfnhkapbfgofkaa
open Go.RowKit

theorem two_boxes (w : World) (a b : Array Value) (s t : TypeId) {w2 : World} (h : (w.alloc (.cells a s)).alloc (.cells b t) = w2) :
    Bk w2 w.heap.size s a ∧ Bk w2 (w.heap.size + 1) t b ∧ w2.heap.size = w.heap.size + 2 ∧ Below w.heap.size w w2 := by
  subst h
  have b1 := Bk.new w s a
  have b2 := Bk.new (w.alloc (.cells a s)) t b
  rw [World.size_alloc] at b2
  exact ⟨b1.same (Below.heap_alloc _ _ _ (by simp)), b2, by simp, ((Below.refl _ w).alloc (Nat.le_refl _) _).alloc (by simp) _⟩
theorem four_boxes (w : World) (a b c d : Array Value) (s t u v : TypeId) {w2 : World} (h : (((w.alloc (.cells a s)).alloc (.cells b t)).alloc (.cells c u)).alloc (.cells d v) = w2) :
    Bk w2 w.heap.size s a ∧ Bk w2 (w.heap.size + 1) t b ∧ Bk w2 (w.heap.size + 2) u c ∧ Bk w2 (w.heap.size + 3) v d ∧ w2.heap.size = w.heap.size + 4 ∧ Below w.heap.size w w2 := by
  obtain ⟨w1, hw1⟩ : ∃ w1, (w.alloc (.cells a s)).alloc (.cells b t) = w1 := ⟨_, rfl⟩
  rw [hw1] at h
  obtain ⟨h1, h2, h3, h4⟩ := two_boxes w a b s t hw1
  obtain ⟨k1, k2, k3, k4⟩ := two_boxes w1 c d u v h
  rw [h3] at k1 k2 k3
  exact ⟨h1.below k4, h2.below k4, k1, k2, k3, bel2 h4 k4⟩

theorem Bk.ob {W : World} {b : Nat} {t : TypeId} {o : Ob} (h : Bk W b t (obc o)) :
    W.cell? ⟨b, 0, none⟩ = some (.int .i64 o.n) ∧ W.cell? ⟨b, 1, none⟩ = some (.int .i64 o.a.1) ∧ W.cell? ⟨b, 2, none⟩ = some (.int .u32 o.a.2) ∧ W.cell? ⟨b, 3, none⟩ = some (.int .i64 o.b.1) ∧ W.cell? ⟨b, 4, none⟩ = some (.int .u32 o.b.2) ∧
    W.cell? ⟨b, 5, none⟩ = some (.int .i64 o.c.1) ∧ W.cell? ⟨b, 6, none⟩ = some (.int .u32 o.c.2) ∧ W.cell? ⟨b, 7, none⟩ = some (.int .i64 o.d.1) ∧ W.cell? ⟨b, 8, none⟩ = some (.int .u32 o.d.2) ∧ W.cell? ⟨b, 9, none⟩ = some (.bool o.h) :=
  ⟨h.cell 0, h.cell 1, h.cell 2, h.cell 3, h.cell 4, h.cell 5, h.cell 6, h.cell 7, h.cell 8, h.cell 9⟩
theorem Bk.ofz {W : World} {b : Nat} {t : TypeId} {cs : Array Value} (h : Bk W b t cs) :
    W.frozen? ⟨b, 0, none⟩ = false ∧ W.frozen? ⟨b, 1, none⟩ = false ∧ W.frozen? ⟨b, 2, none⟩ = false ∧ W.frozen? ⟨b, 3, none⟩ = false ∧ W.frozen? ⟨b, 4, none⟩ = false ∧
    W.frozen? ⟨b, 5, none⟩ = false ∧ W.frozen? ⟨b, 6, none⟩ = false ∧ W.frozen? ⟨b, 7, none⟩ = false ∧ W.frozen? ⟨b, 8, none⟩ = false ∧ W.frozen? ⟨b, 9, none⟩ = false :=
  ⟨h.frozen 0, h.frozen 1, h.frozen 2, h.frozen 3, h.frozen 4, h.frozen 5, h.frozen 6, h.frozen 7, h.frozen 8, h.frozen 9⟩
theorem Bk.rf {W : World} {b : Nat} {t : TypeId} {r : Rf} (h : Bk W b t (rfc r)) : W.cell? ⟨b, 0, none⟩ = some (.int .i64 r.1) ∧ W.cell? ⟨b, 1, none⟩ = some (.int .u32 r.2) := ⟨h.cell 0, h.cell 1⟩
theorem Bk.rfz {W : World} {b : Nat} {t : TypeId} {cs : Array Value} (h : Bk W b t cs) : W.frozen? ⟨b, 0, none⟩ = false ∧ W.frozen? ⟨b, 1, none⟩ = false := ⟨h.frozen 0, h.frozen 1⟩

theorem bel10 {n b : Nat} {w W : World} (h : Below n w W) (hb : n ≤ b) (v0 v1 v2 v3 v4 v5 v6 v7 v8 v9 : Value) : Below n w ((((((((((W.setCell ⟨b, 0, none⟩ v0).setCell ⟨b, 1, none⟩ v1).setCell ⟨b, 2, none⟩ v2).setCell ⟨b, 3, none⟩ v3).setCell ⟨b, 4, none⟩ v4).setCell ⟨b, 5, none⟩ v5).setCell ⟨b, 6, none⟩ v6).setCell ⟨b, 7, none⟩ v7).setCell ⟨b, 8, none⟩ v8).setCell ⟨b, 9, none⟩ v9) :=
  ((((((((((h.setCell (p := ⟨b, 0, none⟩) hb v0).setCell (p := ⟨b, 1, none⟩) hb v1).setCell (p := ⟨b, 2, none⟩) hb v2).setCell (p := ⟨b, 3, none⟩) hb v3).setCell (p := ⟨b, 4, none⟩) hb v4).setCell (p := ⟨b, 5, none⟩) hb v5).setCell (p := ⟨b, 6, none⟩) hb v6).setCell (p := ⟨b, 7, none⟩) hb v7).setCell (p := ⟨b, 8, none⟩) hb v8).setCell (p := ⟨b, 9, none⟩) hb v9)
theorem bel_two {n b : Nat} {w W : World} (h : Below n w W) (hb : n ≤ b) (u v : Value) : Below n w ((W.setCell ⟨b, 0, none⟩ u).setCell ⟨b, 1, none⟩ v) :=
  (h.setCell (p := ⟨b, 0, none⟩) hb u).setCell (p := ⟨b, 1, none⟩) hb v

set_option maxHeartbeats 1000000 in
theorem new_any (n : Int) (hn : -9223372036854775808 ≤ n ∧ n ≤ 9223372036854775807) (h : Bool) (w : World) : Calls Try.prog 36 #[.int .i64 n, .bool h] w fun e w' => e = .returned (.tuple #[obv (newR n h).1, .int .i64 (newR n h).2]) ∧ Below w.heap.size w w' := by
  have hrg : Rg (mk n h) := ⟨hn.1, hn.2, fun j _ => by rw [mk_fld]; exact rfok_none.rr⟩
  have HC := Lib.hid (check_anyF (mk n h) hrg)
  obtain ⟨w2, hw2⟩ : ∃ w2, (w.alloc (.cells (obc ob0) 53)).alloc (.cells (obc (mk n h)) 53) = w2 := ⟨_, rfl⟩
  obtain ⟨k1, k2, k3, k4⟩ := two_boxes w _ _ _ _ hw2
  have HB := Lib.hid (And.intro k1 (And.intro k2 (And.intro k3 k4)))
  have HW := Lib.hid hw2
  obtain ⟨ck, hck⟩ : ∃ ck, chk (mk n h) = ck := ⟨_, rfl⟩
  rw [hck] at HC
  simp only [obv, obc, mk] at HC
  simp only [obc, ob0, mk] at HW
  clear k1 k2 k3 k4 hw2
  by_cases hp : Poss (mk n h)
  · obtain rfl : ck = 0 := hck.symm.trans (chk_ok hp)
    have HV := Lib.hid (new_okF hp)
    clear hck hp hrg
    go_enter Try.func36, Try.ntmps36
    go_wp2_with fail
    rw [HW.out]
    refine (HC.out _).mono ?_
    rintro e w3 ⟨rfl, hb⟩
    obtain ⟨k1, k2, k3, k4⟩ := HB.out
    have HB2 := Lib.hid (bel2 k4 hb)
    obtain ⟨a0, a1, a2, a3, a4, a5, a6, a7, a8, a9⟩ := (k1.below hb).ob
    obtain ⟨f0, f1, f2, f3, f4, f5, f6, f7, f8, f9⟩ := (k1.below hb).ofz
    obtain ⟨b0, b1, b2, b3, b4, b5, b6, b7, b8, b9⟩ := (k2.below hb).ob
    simp only [ob0, mk] at a0 a1 a2 a3 a4 a5 a6 a7 a8 a9 b0 b1 b2 b3 b4 b5 b6 b7 b8 b9
    have hsz := hb.size
    clear k1 k2 k4 hb
    go_wp2
    refine bodyPost_ret (v := .tuple #[.agg #[.int .i64 n, .int .i64 0, .int .u32 0, .int .i64 0, .int .u32 0, .int .i64 0, .int .u32 0, .int .i64 0, .int .u32 0, .bool h], .int .i64 0]) ?_ rfl ⟨by rw [HV.out]; rfl, ?_⟩
    · rw [results_cell_tmp rfl]
      go_simp
    · exact bel10 HB2.out (Nat.le_refl _) _ _ _ _ _ _ _ _ _ _
  · obtain rfl : ck = 2 := hck.symm.trans (chk_bad hp)
    have HV := Lib.hid (new_bad hp)
    clear hck hp hrg
    go_enter Try.func36, Try.ntmps36
    go_wp2_with fail
    rw [HW.out]
    refine (HC.out _).mono ?_
    rintro e w3 ⟨rfl, hb⟩
    obtain ⟨k1, k2, k3, k4⟩ := HB.out
    have HB2 := Lib.hid (bel2 k4 hb)
    obtain ⟨a0, a1, a2, a3, a4, a5, a6, a7, a8, a9⟩ := (k1.below hb).ob
    obtain ⟨f0, f1, f2, f3, f4, f5, f6, f7, f8, f9⟩ := (k1.below hb).ofz
    simp only [ob0] at a0 a1 a2 a3 a4 a5 a6 a7 a8 a9
    have hsz := hb.size
    clear k1 k2 k4 hb
    go_wp2
    refine bodyPost_ret (v := .tuple #[.agg #[.int .i64 0, .int .i64 0, .int .u32 0, .int .i64 0, .int .u32 0, .int .i64 0, .int .u32 0, .int .i64 0, .int .u32 0, .bool false], .int .i64 2]) ?_ rfl ⟨by rw [HV.out]; rfl, ?_⟩
    · rw [results_cell_tmp rfl]
      go_simp
    · exact bel10 HB2.out (Nat.le_refl _) _ _ _ _ _ _ _ _ _ _

set_option maxHeartbeats 1000000 in
theorem get_any (o : Ob) (hr : Rg o) (i : Int) (hi : -9223372036854775808 ≤ i ∧ i ≤ 9223372036854775807) (w : World) : Calls Try.prog 45 #[obv o, .int .i64 i] w fun e w' => e = .returned (.tuple #[rfv (getR o i).1, .int .i64 (getR o i).2]) ∧ Below w.heap.size w w' := by
  have HC := Lib.hid (check_anyF o hr)
  obtain ⟨w2, hw2⟩ : ∃ w2, (w.alloc (.cells (obc o) 53)).alloc (.cells (rfc (0, 0)) 34) = w2 := ⟨_, rfl⟩
  obtain ⟨k1, k2, k3, k4⟩ := two_boxes w _ _ _ _ hw2
  have HB := Lib.hid (And.intro k1 (And.intro k2 (And.intro k3 k4)))
  have HW := Lib.hid hw2
  obtain ⟨ck, hck⟩ : ∃ ck, chk o = ck := ⟨_, rfl⟩
  rw [hck] at HC
  unfold obv obc at HC ⊢
  simp only [obc, rfc] at HW
  clear k1 k2 k3 k4 hw2
  have hi1 := hi.1
  have hi2 := hi.2
  have hn1 := hr.n1
  have hn2 := hr.n2
  by_cases hp : Poss o
  · obtain rfl : ck = 0 := hck.symm.trans (chk_ok hp)
    have hn0 := hp.n0
    have hn4 := hp.n4
    by_cases h1 : i < 0
    · have HV := Lib.hid (get_out hp (.inl h1))
      clear hck hp hr hi
      go_enter Try.func45, Try.ntmps45
      go_wp2_with fail
      rw [HW.out]
      refine (HC.out _).mono ?_
      rintro e w3 ⟨rfl, hb⟩
      obtain ⟨k1, k2, k3, k4⟩ := HB.out
      have HB2 := Lib.hid (bel2 k4 hb)
      obtain ⟨a0, a1, a2, a3, a4, a5, a6, a7, a8, a9⟩ := (k1.below hb).ob
      obtain ⟨b0, b1⟩ := (k2.below hb).rf
      obtain ⟨f0, f1⟩ := (k2.below hb).rfz
      simp only at b0 b1
      have hsz := hb.size
      clear k1 k2 k4 hb
      go_wp2
      refine bodyPost_ret (v := .tuple #[.agg #[.int .i64 0, .int .u32 0], .int .i64 3]) ?_ rfl ⟨by rw [HV.out]; rfl, ?_⟩
      · rw [results_cell_tmp rfl]
        go_simp
      · exact bel_two HB2.out (by omega) _ _
    · by_cases h2 : o.n ≤ i
      · have HV := Lib.hid (get_out hp (.inr h2))
        clear hck hp hr hi
        go_enter Try.func45, Try.ntmps45
        go_wp2_with fail
        rw [HW.out]
        refine (HC.out _).mono ?_
        rintro e w3 ⟨rfl, hb⟩
        obtain ⟨k1, k2, k3, k4⟩ := HB.out
        have HB2 := Lib.hid (bel2 k4 hb)
        obtain ⟨a0, a1, a2, a3, a4, a5, a6, a7, a8, a9⟩ := (k1.below hb).ob
        obtain ⟨b0, b1⟩ := (k2.below hb).rf
        obtain ⟨f0, f1⟩ := (k2.below hb).rfz
        simp only at b0 b1
        have hsz := hb.size
        clear k1 k2 k4 hb
        go_wp2
        refine bodyPost_ret (v := .tuple #[.agg #[.int .i64 0, .int .u32 0], .int .i64 3]) ?_ rfl ⟨by rw [HV.out]; rfl, ?_⟩
        · rw [results_cell_tmp rfl]
          go_simp
        · exact bel_two HB2.out (by omega) _ _
      · obtain ⟨j, rfl⟩ : ∃ j : Nat, i = j := ⟨i.toNat, by omega⟩
        have hj4 : j < 4 := by omega
        have hjn : (j : Int) < o.n := by omega
        have HV := Lib.hid (get_ok hp ⟨by omega, hjn⟩)
        clear hck hp hr hi h1 h2
        go_enter Try.func45, Try.ntmps45
        go_wp2_with fail
        rw [HW.out]
        refine (HC.out _).mono ?_
        rintro e w3 ⟨rfl, hb⟩
        obtain ⟨k1, k2, k3, k4⟩ := HB.out
        have HB2 := Lib.hid (bel2 k4 hb)
        have a0 := (k1.below hb).ob.1
        have s0 := ((k1.below hb).cell (1 + j * 2)).trans (obc_s o j hj4)
        have s1 := ((k1.below hb).cell (1 + j * 2 + 1)).trans (obc_g o j hj4)
        obtain ⟨b0, b1⟩ := (k2.below hb).rf
        obtain ⟨f0, f1⟩ := (k2.below hb).rfz
        simp only at b0 b1
        have hsz := hb.size
        clear k1 k2 k4 hb
        go_wp2
        refine bodyPost_ret (v := .tuple #[.agg #[.int .i64 (o.fld j).1, .int .u32 (o.fld j).2], .int .i64 0]) ?_ rfl ⟨by rw [HV.out]; rfl, ?_⟩
        · rw [results_cell_tmp rfl]
          go_simp
        · exact bel_two HB2.out (by omega) _ _
  · obtain rfl : ck = 2 := hck.symm.trans (chk_bad hp)
    have HV := Lib.hid (get_bad hp i)
    clear hck hp hr hi
    go_enter Try.func45, Try.ntmps45
    go_wp2_with fail
    rw [HW.out]
    refine (HC.out _).mono ?_
    rintro e w3 ⟨rfl, hb⟩
    obtain ⟨k1, k2, k3, k4⟩ := HB.out
    have HB2 := Lib.hid (bel2 k4 hb)
    obtain ⟨b0, b1⟩ := (k2.below hb).rf
    obtain ⟨f0, f1⟩ := (k2.below hb).rfz
    simp only at b0 b1
    have hsz := hb.size
    clear k1 k2 k4 hb
    go_wp2
    refine bodyPost_ret (v := .tuple #[.agg #[.int .i64 0, .int .u32 0], .int .i64 2]) ?_ rfl ⟨by rw [HV.out]; rfl, ?_⟩
    · rw [results_cell_tmp rfl]
      go_simp
    · exact bel_two HB2.out (by omega) _ _
end Go.Proofs.Ytfnhkapbfgofkaa
