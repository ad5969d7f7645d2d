/- The contract of the laws' Made. -/
import Derived.Test.YtmbkhkijmfogcaaDoorNx
import Derived.Deep.Cut
import Derived.Deep.RegionHeld3
namespace Go.Proofs.YtmbkhkijmfogcaaDoor
open Go.RowKit

/-- While Made's loop runs: the first j fields are there. -/
def mst (K : Nat) (s g : Four) (j : Nat) : Ob :=
  ⟨K, if 0 < j then mkr s.a g.a else (0, 0), if 1 < j then mkr s.b g.b else (0, 0), if 2 < j then mkr s.c g.c else (0, 0), if 3 < j then mkr s.d g.d else (0, 0), false⟩
theorem mst_zero (K : Nat) (s g : Four) : mst K s g 0 = mk K false := rfl
theorem mst_succ (K : Nat) (s g : Four) (j : Nat) (hj : j < 4) : (mst K s g j).upd (mkr (s.at j) (g.at j)) j = mst K s g (j + 1) := by
  match j, hj with
  | 0, _ => rfl
  | 1, _ => rfl
  | 2, _ => rfl
  | 3, _ => rfl
theorem mst_fld (K : Nat) (s g : Four) (j i : Nat) (hi : i < 4) : (mst K s g j).fld i = if i < j then mkr (s.at i) (g.at i) else (0, 0) := by
  match i, hi with
  | 0, _ => rfl
  | 1, _ => rfl
  | 2, _ => rfl
  | 3, _ => rfl
/-- What Made makes. -/
def made (n : Nat) (s g : Four) : Ob := if 4 < n % 8 then mk 0 (n % 8 == 7) else mst (n % 8) s g (n % 8)
theorem made_handle {n : Nat} (h : 4 < n % 8) (s g : Four) : made n s g = mk 0 (n % 8 == 7) := by unfold made; rw [if_pos h]
theorem made_obj {n : Nat} (h : ¬ 4 < n % 8) (s g : Four) : made n s g = mst (n % 8) s g (n % 8) := by unfold made; rw [if_neg h]
def In8 (s : Four) : Prop := ∀ j, 0 ≤ s.at j ∧ s.at j ≤ 255
def In32 (g : Four) : Prop := ∀ j, 0 ≤ g.at j ∧ g.at j ≤ 4294967295
theorem made_poss (n : Nat) {s g : Four} (hs : In8 s) (hg : In32 g) : Poss (made n s g) := by
  by_cases h : 4 < n % 8
  · rw [made_handle h]
    exact mk_poss (by decide) (by decide) (fun _ => rfl)
  · rw [made_obj h]
    refine ⟨by show (0 : Int) ≤ ((n % 8 : Nat) : Int); omega, by show ((n % 8 : Nat) : Int) ≤ 4; omega, (fun e => by cases e), fun j hj => ?_, fun j hj hn => ?_⟩
    · rw [mst_fld _ _ _ _ _ hj]
      split
      · exact mkr_ok (hs j) (hg j)
      · exact rfok_none
    · have h2 : ((n % 8 : Nat) : Int) ≤ j := hn
      rw [mst_fld _ _ _ _ _ hj, if_neg (by omega)]

set_option maxRecDepth 100000 in
set_option maxHeartbeats 4000000 in
theorem made_ok (n : Nat) (hn : n ≤ 255) (s g : Four) (hs : In8 s) (hg : In32 g) (w : World) :
    Calls Tryd.prog 27 #[.int .u8 (n : Int), .agg #[.int .u8 s.a, .int .u8 s.b, .int .u8 s.c, .int .u8 s.d], .agg #[.int .u32 g.a, .int .u32 g.b, .int .u32 g.c, .int .u32 g.d]] w fun e w' => e = .returned (obv (made n s g)) ∧ Below w.heap.size w w' := by
  have hcast : (((n % 8 : Nat) : Nat) : Int) = (n : Int) % 8 := by omega
  obtain ⟨w1, hw1⟩ : ∃ w1, ((w.alloc (.cells (f8c s) 56)).alloc (.cells (f32c g) 57)).alloc (.cells (obc ob0) 27) = w1 := ⟨_, rfl⟩
  obtain ⟨k1, k2, k3, hsz1, k4⟩ := three_boxes w _ _ _ _ _ _ hw1
  have HI : Hid (Bk w1 w.heap.size 56 (f8c s) ∧ Bk w1 (w.heap.size + 1) 57 (f32c g) ∧ Bk w1 (w.heap.size + 2) 27 (obc ob0) ∧ Below w.heap.size w w1) := ⟨k1, k2, k3, k4⟩
  have HW1 := Lib.hid hw1
  simp only [obc, ob0, f8c, f32c] at HW1
  clear hw1 k1 k2 k3 k4
  by_cases h4 : 4 < n % 8
  · have HM : Hid (made n s g = mk 0 ((n : Int) % 8 == 7)) := by
      unfold Hid
      rw [made_handle h4]
      congr 1
      rw [Bool.eq_iff_iff, beq_iff_eq, beq_iff_eq]
      omega
    have h4' : (4 : Int) < (n : Int) % 8 := by omega
    clear hcast h4
    go_enter Tryd.func27, Tryd.ntmps27
    go_upto_region 1 with fail
    rw [HW1.out]
    obtain ⟨a0, a1, a2, a3, a4, a5, a6, a7, a8, a9⟩ := HI.out.2.2.1.ob
    obtain ⟨f0, f1, f2, f3, f4, f5, f6, f7, f8, f9⟩ := HI.out.2.2.1.ofz
    simp only [ob0] at a0 a1 a2 a3 a4 a5 a6 a7 a8 a9
    go_wp2
    refine bodyPost_ret (v := .agg #[.int .i64 0, .int .i64 0, .int .u32 0, .int .i64 0, .int .u32 0, .int .i64 0, .int .u32 0, .int .i64 0, .int .u32 0, .bool ((n : Int) % 8 == 7)]) ?_ rfl ⟨by rw [HM.out]; rfl, ?_⟩
    · simp [results, Tryd.f27, go_sem, *]
    · exact bel10 HI.out.2.2.2 (by omega) _ _ _ _ _ _ _ _ _ _
  · have HM := Lib.hid (made_obj h4 s g)
    obtain ⟨K, hK⟩ : ∃ K : Nat, n % 8 = K := ⟨_, rfl⟩
    rw [hK] at HM hcast h4
    have hK4 : K ≤ 4 := by omega
    have hK5 : ¬ (4 : Int) < (n : Int) % 8 := by omega
    have HC := Lib.hid hcast
    have hwr : IntKind.i64.wrap ((n : Int) % 8) = (n : Int) % 8 := IntWalk.i64_in _ (by omega)
    clear hcast h4 hK
    go_enter Tryd.func27, Tryd.ntmps27
    go_upto_region 1 with fail
    rw [HW1.out]
    go_upto_region 4 with fail
    rw [← HC.out]
    have hwr2 : IntKind.i64.wrap (K : Int) = (K : Int) := IntWalk.i64_in _ (by omega)
    obtain ⟨w3, hw3⟩ : ∃ w3, w1.alloc (.cells (obc (mst K s g 0)) 27) = w3 := ⟨_, rfl⟩
    obtain ⟨k1, hsz3, hal⟩ := one_box _ _ _ hw3
    rw [show w1.heap.size = w.heap.size + 3 from hsz1] at k1
    have HJ : Hid (Bk w3 (w.heap.size + 3) 27 (obc (mst K s g 0)) ∧ Bk w3 w.heap.size 56 (f8c s) ∧ Bk w3 (w.heap.size + 1) 57 (f32c g) ∧ Bk w3 (w.heap.size + 2) 27 (obc ob0) ∧ Below w.heap.size w w3) :=
      ⟨k1, HI.out.1.below hal, HI.out.2.1.below hal, HI.out.2.2.1.below hal, bel2 HI.out.2.2.2 hal⟩
    have HW3 := Lib.hid hw3
    rw [mst_zero] at HW3
    simp only [obc, mk] at HW3
    clear hw3 k1 hal
    rw [HW3.out]
    have b0 : w3.cell? ⟨w.heap.size + 3, 0, none⟩ = some (.int .i64 (K : Int)) := HJ.out.1.ob.1
    clear hwr hwr2 hK5 hsz3
    go_wp2
    clear b0
    go_loopw [22] (fun i wr => ∃ j : Nat, j ≤ K ∧ i = .int .i64 j ∧ Hid (Bk wr (w.heap.size + 3) 27 (obc (mst K s g j)) ∧ Bk wr w.heap.size 56 (f8c s) ∧ Bk wr (w.heap.size + 1) 57 (f32c g) ∧ Bk wr (w.heap.size + 2) 27 (obc ob0) ∧ Below w.heap.size w wr)) (fun i _ => K - (intOf i).toNat)
    case atStart => exact ⟨0, by omega, rfl, HJ.out⟩
    case round =>
      obtain ⟨j, hj, rfl, HL⟩ := hrel
      obtain ⟨j1, j2, j3, j4, j5⟩ := HL.out
      by_cases hlt : j < K
      · have hj4 : j < 4 := by omega
        have z0 := (j2.cell j).trans (f8c_at s j hj4)
        have z1 := (j3.cell j).trans (f32c_at g j hj4)
        have z2 := j1.frozen (1 + j * 2)
        have z3 := j1.frozen (1 + j * 2 + 1)
        have z4 := (j1.cell (1 + j * 2)).trans (obc_s _ j hj4)
        have z5 := (j1.cell (1 + j * 2 + 1)).trans (obc_g _ j hj4)
        have hl1 := j1.lt
        have HRF := Lib.hid (fun W => ref_ok (s.at j) (g.at j) (hs j) (hg j) W)
        have HU := Lib.hid (mst_succ K s g j hj4)
        generalize s.at j = sj at *
        generalize g.at j = gj at *
        generalize mkr sj gj = r at *
        obtain ⟨q, hq⟩ : ∃ q, mst K s g j = q := ⟨_, rfl⟩
        obtain ⟨qs, hqs⟩ : ∃ qs, (q.fld j).1 = qs := ⟨_, rfl⟩
        obtain ⟨qg, hqg⟩ : ∃ qg, (q.fld j).2 = qg := ⟨_, rfl⟩
        rw [hq] at z4 z5 HU HL j1
        rw [hqs] at z4
        rw [hqg] at z5
        have hz0 := And.intro z0 (And.intro z1 (And.intro z2 z3))
        have HZ := Lib.hid (And.intro z4 z5)
        clear z0 z1 z2 z3 z4 z5 hq hqs hqg j1 j2 j3 j4 j5
        have hj0 : (0 : Int) ≤ (j : Int) := by omega
        have hj5 : (j : Int) < 4 := by omega
        have TC : Hid (∀ W, Below wr.heap.size wr W → W.cell? ⟨w.heap.size, j, none⟩ = some (.int .u8 sj) ∧ W.cell? ⟨w.heap.size + 1, j, none⟩ = some (.int .u32 gj) ∧ W.frozen? ⟨w.heap.size + 3, 1 + j * 2, none⟩ = false ∧ W.frozen? ⟨w.heap.size + 3, 1 + j * 2 + 1, none⟩ = false) := fun W h =>
          ⟨cell_stays h hz0.1, cell_stays h hz0.2.1, ((bcell h).2 _ _ hl1).trans hz0.2.2.1, ((bcell h).2 _ _ hl1).trans hz0.2.2.2⟩
        have TS : Hid (∀ W, Below wr.heap.size wr W → ∀ u v, ((W.setCell ⟨w.heap.size + 3, 1 + j * 2, none⟩ u).setCell ⟨w.heap.size + 3, 1 + j * 2 + 1, none⟩ v).cell? ⟨w.heap.size, j, none⟩ = some (.int .u8 sj) ∧ ((W.setCell ⟨w.heap.size + 3, 1 + j * 2, none⟩ u).setCell ⟨w.heap.size + 3, 1 + j * 2 + 1, none⟩ v).cell? ⟨w.heap.size + 1, j, none⟩ = some (.int .u32 gj) ∧ ((W.setCell ⟨w.heap.size + 3, 1 + j * 2, none⟩ u).setCell ⟨w.heap.size + 3, 1 + j * 2 + 1, none⟩ v).frozen? ⟨w.heap.size + 3, 1 + j * 2, none⟩ = false ∧ ((W.setCell ⟨w.heap.size + 3, 1 + j * 2, none⟩ u).setCell ⟨w.heap.size + 3, 1 + j * 2 + 1, none⟩ v).frozen? ⟨w.heap.size + 3, 1 + j * 2 + 1, none⟩ = false) := fun W h u v => by
          obtain ⟨j1, j2, j3, j4, j5⟩ := HL.out
          have e2 := ((j2.below h).other (b := w.heap.size + 3) (i := 1 + j * 2) (v := u) (by omega)).other (b := w.heap.size + 3) (i := 1 + j * 2 + 1) (v := v) (by omega)
          have e3 := ((j3.below h).other (b := w.heap.size + 3) (i := 1 + j * 2) (v := u) (by omega)).other (b := w.heap.size + 3) (i := 1 + j * 2 + 1) (v := v) (by omega)
          have e1 := ((j1.below h).put (1 + j * 2) u).put (1 + j * 2 + 1) v
          exact ⟨(e2.cell j).trans ((j2.cell j).symm.trans hz0.1), (e3.cell j).trans ((j3.cell j).symm.trans hz0.2.1), e1.frozen _, e1.frozen _⟩
        go_upto_region 7 with fail
        go_region_held3 (fun W => W.cell? ⟨w.heap.size, j, none⟩ = some (.int .u8 sj) ∧ W.cell? ⟨w.heap.size + 1, j, none⟩ = some (.int .u32 gj) ∧ W.frozen? ⟨w.heap.size + 3, 1 + j * 2, none⟩ = false ∧ W.frozen? ⟨w.heap.size + 3, 1 + j * 2 + 1, none⟩ = false) (first | exact hz0 | (with_reducible exact hz1) | (with_reducible exact hz2 _ _))
          (first
          | (go_at_call 28; (with_reducible refine (HRF.out _).mono ?_); rintro e w5 ⟨rfl, hb5⟩; have HB5 := Lib.hid (bel2 (bel_dr wr) hb5); have hz1 := TC.out w5 HB5.out; have hz2 := TS.out w5 HB5.out; have hy1 := cell_stays HB5.out HZ.out.1; have hy2 := cell_stays HB5.out HZ.out.2; clear hb5))
        all_goals
          clear hz1 hz2 hy1 hy2
          go_wp2
          go_roundw
          case rel =>
            refine ⟨j + 1, by omega, by go_num, ?_⟩
            obtain ⟨j1, j2, j3, j4, j5⟩ := HL.out
            refine ⟨?_, ((j2.below HB5.out).other (by omega)).other (by omega), ((j3.below HB5.out).other (by omega)).other (by omega), ((j4.below HB5.out).other (by omega)).other (by omega), ?_⟩
            · rw [← HU.out]; exact put_fld (j1.below HB5.out) r hj4
            · exact ((bel2 j5 HB5.out).setCell (p := ⟨w.heap.size + 3, 1 + j * 2, none⟩) (by show w.heap.size ≤ w.heap.size + 3; omega) _).setCell (p := ⟨w.heap.size + 3, 1 + j * 2 + 1, none⟩) (by show w.heap.size ≤ w.heap.size + 3; omega) _
          case measure => simp [intOf]; omega
      · obtain rfl : j = K := by omega
        obtain ⟨q, hq⟩ : ∃ q, mst j s g j = q := ⟨_, rfl⟩
        rw [hq] at j1 HM
        obtain ⟨a0, a1, a2, a3, a4, a5, a6, a7, a8, a9⟩ := j4.ob
        obtain ⟨f0, f1, f2, f3, f4, f5, f6, f7, f8, f9⟩ := j4.ofz
        obtain ⟨b0, b1, b2, b3, b4, b5, b6, b7, b8, b9⟩ := j1.ob
        simp only [ob0] at a0 a1 a2 a3 a4 a5 a6 a7 a8 a9
        clear j1 j2 j3 j4 hlt hq
        have HB9 := Lib.hid j5
        clear j5
        go_wp2
        refine bodyPost_ret (v := .agg #[.int .i64 q.n, .int .i64 q.a.1, .int .u32 q.a.2, .int .i64 q.b.1, .int .u32 q.b.2, .int .i64 q.c.1, .int .u32 q.c.2, .int .i64 q.d.1, .int .u32 q.d.2, .bool q.h]) ?_ rfl ⟨by rw [HM.out]; rfl, ?_⟩
        · simp [results, Tryd.f27, go_sem, *]
        · exact bel10 HB9.out (by omega) _ _ _ _ _ _ _ _ _ _
end Go.Proofs.YtmbkhkijmfogcaaDoor
