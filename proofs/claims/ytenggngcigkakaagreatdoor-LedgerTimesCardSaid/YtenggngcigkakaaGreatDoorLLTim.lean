/- LedgerTimes gives true: the walk. -/
import Derived.Test.YtenggngcigkakaaGreatDoorIi
namespace Go.Proofs.YtenggngcigkakaaGreatDoor
open Go.RowKit

set_option maxRecDepth 100000 in
set_option maxHeartbeats 8000000 in
theorem lTim_walk (a : Option Addr) (n c : Nat) (l : List Ent) (y : Ent) (t : Int) (w : World) (hl : RdE w (.slice a n c) l) (hy : y.Rg) (ht0 : -9223372036854775808 ≤ t) (ht1 : t ≤ 9223372036854775807) (he : EnvL w) :
    Calls Tryz.prog 10 #[.slice a n c, .agg #[.int .u8 y.u, .int .u8 y.r, .int .u8 y.y, .int .u8 y.n], .int .i64 t] w fun e w' => e = .returned (.bool true) ∧ Below w.heap.size w w' := by
  have HE := Lib.hid he
  have HY := Lib.hid hy
  have HL := Lib.hid hl
  have HRG : Hid (∀ x ∈ l, x.Rg) := by obtain ⟨_, _, _, _, _, h, _⟩ := hl; exact h
  have HST : Hid (Steady (entL 0 (l.take 100))) := entL_steady _ (fun x hx => HRG.out x (List.mem_of_mem_take hx)) 0 (by rw [List.length_take]; omega) (by rw [List.length_take]; omega)
  have HLN : Hid ((entL 0 (l.take 100)).length ≤ 100) := by rw [Hid, entL_length, List.length_take]; omega
  clear he hl hy HRG
  have HA : Hid (∀ W, RdE W (.slice a n c) l → Calls Tryz.prog 39 #[.slice a n c] W (NewA (entL 0 (l.take 100)) W)) := fun W h => atts_ok a n c l W h
  generalize entL 0 (l.take 100) = L at *
  obtain ⟨N, hN⟩ : ∃ N, L.length = N := ⟨_, rfl⟩
  have HN := Lib.hid hN
  clear hN
  have hB0 := bel_new w (.cells #[.int .u8 y.u, .int .u8 y.r, .int .u8 y.y, .int .u8 y.n] 73)
  have HB0 := Lib.hid hB0
  have HL0 := Lib.hid (HL.out.below hB0)
  have hbx := Bk.new w 73 #[.int .u8 y.u, .int .u8 y.r, .int .u8 y.y, .int .u8 y.n]
  have HX0 := Lib.hid hbx
  clear hB0 hbx HL
  go_enter Tryz.func10, Tryz.ntmps10
  go_wp2_with fail
  refine (HA.out _ HL0.out).mono ?_
  rintro e w1 ⟨v, rfl, ho, hb1⟩
  obtain ⟨p, c1, rfl⟩ : ∃ p c1, v = .slice p N c1 := by have := rd_slice (RdA.of_own ho); rw [HN.out] at this; exact this
  have HB1 := Lib.hid (bel2 HB0.out hb1)
  have HX1 := Lib.hid (HX0.out.below hb1)
  have HO1 := Lib.hid (own_lower (b := w.heap.size) ho (by simp))
  have HSZ : Hid (w.heap.size ≤ w1.heap.size) := HB1.out.size
  clear ho hb1 HB0 HX0 HL0 HA
  go_wp2_with fail
  refine (filled_ok p _ c1 L w1 (RdA.of_own HO1.out) (own_lt HO1.out) HST.out (HE.out.below HB1.out)).mono ?_
  rintro e w2 ⟨b, bk, rfl, hl2, hf2, hb2⟩
  have HB2 := Lib.hid (bel2 HB1.out hb2)
  have HX2 := Lib.hid (HX1.out.below hb2)
  have HO2 := Lib.hid (own_below HO1.out hb2)
  have HL2 := Lib.hid hl2
  have HF2 := Lib.hid hf2
  clear hl2 hf2 hb2 HB1 HX1 HO1
  have d0 := HX2.out.cell 0
  have d1 := HX2.out.cell 1
  have d2 := HX2.out.cell 2
  have d3 := HX2.out.cell 3
  go_wp2_with fail
  have HB3 := Lib.hid (bel2 HB2.out (bel_new w2 (.cells #[.int .u8 y.u, .int .u8 y.r, .int .u8 y.y, .int .u8 y.n] 73)))
  have HF3 := Lib.hid (HF2.out.below HL2.out (bel_new w2 (.cells #[.int .u8 y.u, .int .u8 y.r, .int .u8 y.y, .int .u8 y.n] 73)))
  have HO3 := Lib.hid (own_below HO2.out (bel_new w2 (.cells #[.int .u8 y.u, .int .u8 y.r, .int .u8 y.y, .int .u8 y.n] 73)))
  have HL3 := Lib.hid (HL2.out.below (bel_new w2 (.cells #[.int .u8 y.u, .int .u8 y.r, .int .u8 y.y, .int .u8 y.n] 73))).1
  refine (atts_ok _ 1 1 [y] _ (rde_one w2 y HY.out)).mono ?_
  clear d0 d1 d2 d3 HX2 HB2 HF2 HO2 HL2
  generalize w2.alloc (.cells #[.int .u8 y.u, .int .u8 y.r, .int .u8 y.y, .int .u8 y.n] 73) = w3 at *
  rintro e w4 ⟨v', rfl, ho4, hb4⟩
  have HAO : Hid (entA 0 y).Ok := entA_ok 0 y (by have := HY.out.u1; omega)
  have ho4' : w4.ownsRow w3.heap.size 32 6 v' [entA 0 y].length (cls [entA 0 y]) := ho4
  obtain ⟨p', c', rfl⟩ : ∃ p' c', v' = .slice p' 1 c' := rd_slice (RdA.of_own ho4')
  have HR4 := Lib.hid (RdA.of_own ho4')
  clear ho4 ho4'
  generalize entA 0 y = A at *
  have hB5 := bel2 hb4 (bel_new w4 (.cells #[.int .i64 t, .int .i64 A.k, .int .i64 A.i, .int .u32 A.g, .int .i64 A.y, .int .i64 A.n] 32))
  have HB5 := Lib.hid (bel2 HB3.out hB5)
  have HF5 := Lib.hid (HF3.out.below HL3.out hB5)
  have HO5 := Lib.hid (own_below HO3.out hB5)
  have HL5 := Lib.hid (HL3.out.below hB5).1
  have HX5 : Hid (Bk (w4.alloc (.cells #[.int .i64 t, .int .i64 A.k, .int .i64 A.i, .int .u32 A.g, .int .i64 A.y, .int .i64 A.n] 32)) w4.heap.size 32 (setT A t).cl.toArray) := Bk.new w4 _ _
  have HLT : Hid (∀ g, p = some ⟨g, 0, none⟩ → g < w4.heap.size) := fun g e => by
    have := own_lt HO3.out g 0 N c1 (by rw [e])
    exact Nat.lt_of_lt_of_le this hb4.size
  obtain ⟨g', off', rfl, hg', hsix⟩ := HR4.out.cell (j := 0) (by simp)
  simp only [Nat.zero_mul, Nat.add_zero, List.getElem_cons_zero] at hsix
  obtain ⟨c0, c1', c2, c3, c4, c5⟩ := hsix
  have FRESH : Hid (∀ g, Foot (w4.alloc (.cells #[.int .i64 t, .int .i64 A.k, .int .i64 A.i, .int .u32 A.g, .int .i64 A.y, .int .i64 A.n] 32)) bk g → g < w4.heap.size) := fun g hg => by
    have h1 := (HL3.out.below (bel2 hb4 (bel_new w4 (.cells #[.int .i64 t, .int .i64 A.k, .int .i64 A.i, .int .u32 A.g, .int .i64 A.y, .int .i64 A.n] 32)))).2 g
    exact Nat.lt_of_lt_of_le (HL3.out.foot_le (h1.1 hg)).2 hb4.size
  clear HB3 HF3 HO3 HL3 hb4 hB5 HR4
  rcases N with _ | j
  · have HLA : Hid ((t < 0 → addE L (setT A t) = 2) ∧ (1099511627776 < t → addE L (setT A t) = 2) ∧ (0 ≤ t → t < 0 → addE L (setT A t) = 8) ∧ (0 ≤ t → t ≤ 1099511627776 → ¬ t < 0 → addE L (setT A t) = 0)) := by
      obtain rfl := List.eq_nil_of_length_eq_zero HN.out
      exact ⟨fun h => addE_arg (setT_no (.inl h)), fun h => addE_arg (setT_no (.inr h)), fun h1 h2 => by omega, fun h1 h2 h3 => addE_none (setT_ok HAO.out h1 h2)⟩
    have HNF : Hid (¬ Foot (w4.alloc (.cells #[.int .i64 t, .int .i64 A.k, .int .i64 A.i, .int .u32 A.g, .int .i64 A.y, .int .i64 A.n] 32)) bk w4.heap.size) := fun hg => absurd (FRESH.out _ hg) (Nat.lt_irrefl _)
    by_cases h0 : t < 0
    · have HAE := Lib.hid (HLA.out.1 h0)
      go_wp2_with fail
      refine (add_ok b bk _ L (setT A t) _ HL5.out (setT_rg HAO.out ht0 ht1) (HE.out.below HB5.out)).mono ?_
      clear c0 c1' c2 c3 c4 c5
      generalize w4.alloc (.cells #[.int .i64 t, .int .i64 A.k, .int .i64 A.i, .int .u32 A.g, .int .i64 A.y, .int .i64 A.n] 32) = w5 at *
      rintro e w6 ⟨rfl, hl6, hk6, hf6⟩
      rw [addL_no (by rw [HAE.out]; decide)] at hl6
      rw [HAE.out]
      have HL6 := Lib.hid hl6
      have HF6 := Lib.hid (HF5.out.add hk6 hf6)
      have HO6 := Lib.hid (own_far HO5.out HF5.out hk6)
      have HB6 := Lib.hid (HB5.out.trans (hk6.below HB5.out.size (fun g hg => Nat.le_trans HSZ.out (HL5.out.foot_le hg).1)))
      have HX6 : Hid (Bk w6 w4.heap.size 32 (setT A t).cl.toArray) := HX5.out.kept hk6 (HNF.out)
      clear hl6 hk6 hf6 HL5 HF5 HO5 HB5 HX5 HNF
      go_wp2_with fail
      refine (all_ok b bk _ L _ HL6.out).mono ?_
      rintro e w7 ⟨va, rfl, ho7, hb7⟩
      obtain ⟨pa, na, ca, rfl⟩ : ∃ pa na ca, va = .slice pa na ca := by obtain ⟨pa, ca, h⟩ := rd_slice (RdA.of_own ho7); exact ⟨_, _, _, h⟩
      have HR7 := Lib.hid (RdA.of_own ho7)
      have HB7 := Lib.hid (bel2 HB6.out hb7)
      have HP7 := Lib.hid (RdA.of_own (own_below HO6.out hb7))
      clear ho7 hb7
      go_wp2_with fail
      refine (equal_yes _ _ _ _ _ _ L _ HR7.out HP7.out).mono ?_
      rintro e w8 ⟨rfl, hb8⟩
      have HB8 := Lib.hid (bel2 HB7.out hb8)
      clear hb8
      go_wp2_with fail
      refine (works_ok _ (HE.out.below HB8.out)).mono ?_
      rintro e w9 ⟨rfl, hb9⟩
      have HB9 := Lib.hid (bel2 HB8.out hb9)
      clear hb9
      go_wp2
      go_ret
      exact ⟨rfl, HB9.out⟩
    · by_cases h1 : 1099511627776 < t
      · have HAE := Lib.hid (HLA.out.2.1 h1)
        go_wp2_with fail
        refine (add_ok b bk _ L (setT A t) _ HL5.out (setT_rg HAO.out ht0 ht1) (HE.out.below HB5.out)).mono ?_
        clear c0 c1' c2 c3 c4 c5
        generalize w4.alloc (.cells #[.int .i64 t, .int .i64 A.k, .int .i64 A.i, .int .u32 A.g, .int .i64 A.y, .int .i64 A.n] 32) = w5 at *
        rintro e w6 ⟨rfl, hl6, hk6, hf6⟩
        rw [addL_no (by rw [HAE.out]; decide)] at hl6
        rw [HAE.out]
        have HL6 := Lib.hid hl6
        have HF6 := Lib.hid (HF5.out.add hk6 hf6)
        have HO6 := Lib.hid (own_far HO5.out HF5.out hk6)
        have HB6 := Lib.hid (HB5.out.trans (hk6.below HB5.out.size (fun g hg => Nat.le_trans HSZ.out (HL5.out.foot_le hg).1)))
        have HX6 : Hid (Bk w6 w4.heap.size 32 (setT A t).cl.toArray) := HX5.out.kept hk6 (HNF.out)
        clear hl6 hk6 hf6 HL5 HF5 HO5 HB5 HX5 HNF
        go_wp2_with fail
        refine (all_ok b bk _ L _ HL6.out).mono ?_
        rintro e w7 ⟨va, rfl, ho7, hb7⟩
        obtain ⟨pa, na, ca, rfl⟩ : ∃ pa na ca, va = .slice pa na ca := by obtain ⟨pa, ca, h⟩ := rd_slice (RdA.of_own ho7); exact ⟨_, _, _, h⟩
        have HR7 := Lib.hid (RdA.of_own ho7)
        have HB7 := Lib.hid (bel2 HB6.out hb7)
        have HP7 := Lib.hid (RdA.of_own (own_below HO6.out hb7))
        clear ho7 hb7
        go_wp2_with fail
        refine (equal_yes _ _ _ _ _ _ L _ HR7.out HP7.out).mono ?_
        rintro e w8 ⟨rfl, hb8⟩
        have HB8 := Lib.hid (bel2 HB7.out hb8)
        clear hb8
        go_wp2_with fail
        refine (works_ok _ (HE.out.below HB8.out)).mono ?_
        rintro e w9 ⟨rfl, hb9⟩
        have HB9 := Lib.hid (bel2 HB8.out hb9)
        clear hb9
        go_wp2
        go_ret
        exact ⟨rfl, HB9.out⟩
      · have HAE := Lib.hid (HLA.out.2.2.2 (by omega) (by omega) (by omega))
        go_wp2_with fail
        refine (add_ok b bk _ L (setT A t) _ HL5.out (setT_rg HAO.out ht0 ht1) (HE.out.below HB5.out)).mono ?_
        clear c0 c1' c2 c3 c4 c5
        generalize w4.alloc (.cells #[.int .i64 t, .int .i64 A.k, .int .i64 A.i, .int .u32 A.g, .int .i64 A.y, .int .i64 A.n] 32) = w5 at *
        rintro e w6 ⟨rfl, hl6, hk6, hf6⟩
        rw [addL_ok HAE.out] at hl6
        rw [HAE.out]
        have HL6 := Lib.hid hl6
        have HF6 := Lib.hid (HF5.out.add hk6 hf6)
        have HO6 := Lib.hid (own_far HO5.out HF5.out hk6)
        have HB6 := Lib.hid (HB5.out.trans (hk6.below HB5.out.size (fun g hg => Nat.le_trans HSZ.out (HL5.out.foot_le hg).1)))
        have HX6 : Hid (Bk w6 w4.heap.size 32 (setT A t).cl.toArray) := HX5.out.kept hk6 (HNF.out)
        clear hl6 hk6 hf6 HL5 HF5 HO5 HB5 HX5 HNF
        go_wp2
        have HPF : Hid (∀ k, p = some ⟨k, 0, none⟩ → ¬ Foot w6 bk k) := fun k e => (HF6.out.apart k 0 0 c1 (by rw [e])).1
        have HOB : Hid (∀ k, p = some ⟨k, 0, none⟩ → (Value.slice p 0 c1).ownBlock = some k) := fun k e => by rw [e]; rfl
        have HKL : Hid (∀ W, Kept (fun k => p = some ⟨k, 0, none⟩) w6 W → LedW W b bk w1.heap.size (L ++ [setT A t]) ∧ Bk W w4.heap.size 32 (setT A t).cl.toArray ∧ Below w.heap.size w W ∧ (W.cell? ⟨w4.heap.size, 0, none⟩ = some (.int .i64 t) ∧ W.cell? ⟨w4.heap.size, 1, none⟩ = some (.int .i64 A.k) ∧ W.cell? ⟨w4.heap.size, 2, none⟩ = some (.int .i64 A.i) ∧ W.cell? ⟨w4.heap.size, 3, none⟩ = some (.int .u32 A.g) ∧ W.cell? ⟨w4.heap.size, 4, none⟩ = some (.int .i64 A.y) ∧ W.cell? ⟨w4.heap.size, 5, none⟩ = some (.int .i64 A.n))) := fun W hW => by
          have h1 := HL6.out.kept hW (fun e => absurd (own_type HO6.out (HOB.out _ e) HL6.out.hb) (by decide)) (fun g hg e => HPF.out g e hg)
          have h2 := HX6.out.kept hW (fun e => absurd (HLT.out _ e) (Nat.lt_irrefl _))
          exact ⟨h1.1, h2, ⟨hW.os.trans HB6.out.os, hW.tape.trans HB6.out.tape, hW.output.trans HB6.out.output, Nat.le_trans HB6.out.size hW.size, fun k hk => (hW.block k (Nat.lt_of_lt_of_le hk HB6.out.size) (fun e => absurd (HO6.out.lt k (HOB.out k e)).1 (by omega))).trans (HB6.out.block k hk)⟩, h2.cell 0, h2.cell 1, h2.cell 2, h2.cell 3, h2.cell 4, h2.cell 5⟩
        have HK0 : Hid (Kept (fun k => p = some ⟨k, 0, none⟩) w6 w6.drew) := (Kept.refl _ _).drew
        have HK1 : Hid (Kept (fun k => p = some ⟨k, 0, none⟩) w6 (w6.alloc (.cells #[.int .i64 t, .int .i64 A.k, .int .i64 A.i, .int .u32 A.g, .int .i64 A.y, .int .i64 A.n] 32)).drew) := ((Kept.refl _ _).alloc _).drew
        have HO60 : Hid (w6.drew.ownsRow w.heap.size 32 6 (.slice p 0 c1) L.length (cls L)) := own_same HO6.out (fun _ _ => rfl)
        have HO61 : Hid ((w6.alloc (.cells #[.int .i64 t, .int .i64 A.k, .int .i64 A.i, .int .u32 A.g, .int .i64 A.y, .int .i64 A.n] 32)).drew.ownsRow w.heap.size 32 6 (.slice p 0 c1) L.length (cls L)) := own_same (own_below HO6.out (bel_new _ _)) (fun _ _ => rfl)
        have HX61 : Hid (Bk (w6.alloc (.cells #[.int .i64 t, .int .i64 A.k, .int .i64 A.i, .int .u32 A.g, .int .i64 A.y, .int .i64 A.n] 32)).drew w6.heap.size 32 (setT A t).cl.toArray) := Bk.new w6 _ _
        have H46 : Hid (w4.heap.size ≤ w6.heap.size) := Nat.le_of_lt HX6.out.lt
        have hz0 := (HKL.out _ HK0.out).2.2.2
        go_region_held3 (fun W => W.cell? ⟨w4.heap.size, 0, none⟩ = some (.int .i64 t) ∧ W.cell? ⟨w4.heap.size, 1, none⟩ = some (.int .i64 A.k) ∧ W.cell? ⟨w4.heap.size, 2, none⟩ = some (.int .i64 A.i) ∧ W.cell? ⟨w4.heap.size, 3, none⟩ = some (.int .u32 A.g) ∧ W.cell? ⟨w4.heap.size, 4, none⟩ = some (.int .i64 A.y) ∧ W.cell? ⟨w4.heap.size, 5, none⟩ = some (.int .i64 A.n)) (first | (with_reducible exact hza) | (with_reducible exact hzq) | (with_reducible exact hzr) | (with_reducible exact (HKL.out _ HK1.out).2.2.2) | (with_reducible exact (HKL.out _ (HKa.out.alloc _)).2.2.2) | exact hz0)
          (first
          | (go_at_call 31; (with_reducible refine at_w (w6.drew) ?_); refine (all_ok b bk _ (L ++ [setT A t]) w6.drew (HKL.out _ HK0.out).1).mono ?_; rintro e wa ⟨va, rfl, hoa, hba⟩; obtain ⟨pa, na, ca, rfl⟩ : ∃ pa na ca, va = .slice pa na ca := (by obtain ⟨pa, ca, h⟩ := rd_slice (RdA.of_own hoa); exact ⟨_, _, _, h⟩); have HKa := Lib.hid (HK0.out.trans ((Kept.of_below (S := fun k => p = some ⟨k, 0, none⟩) hba))); have HOa := Lib.hid (own_below HO60.out hba); have HRa := Lib.hid hoa; clear hoa hba hz0; have hza := (HKL.out _ HKa.out).2.2.2)
          | (go_at_call 31; (with_reducible refine at_w ((w6.alloc (.cells #[.int .i64 t, .int .i64 A.k, .int .i64 A.i, .int .u32 A.g, .int .i64 A.y, .int .i64 A.n] 32)).drew) ?_); refine (all_ok b bk _ (L ++ [setT A t]) (w6.alloc (.cells #[.int .i64 t, .int .i64 A.k, .int .i64 A.i, .int .u32 A.g, .int .i64 A.y, .int .i64 A.n] 32)).drew (HKL.out _ HK1.out).1).mono ?_; rintro e wa ⟨va, rfl, hoa, hba⟩; obtain ⟨pa, na, ca, rfl⟩ : ∃ pa na ca, va = .slice pa na ca := (by obtain ⟨pa, ca, h⟩ := rd_slice (RdA.of_own hoa); exact ⟨_, _, _, h⟩); have HKa := Lib.hid (HK1.out.trans ((Kept.of_below (S := fun k => p = some ⟨k, 0, none⟩) hba))); have HOa := Lib.hid (own_below HO61.out hba); have HXa := Lib.hid (HX61.out.below hba); have HRa := Lib.hid hoa; clear hoa hba hz0; have hza := (HKL.out _ HKa.out).2.2.2)
          | (go_at_call 31; (with_reducible refine at_w w8 ?_); refine (all_ok b bk _ (L ++ [setT A t]) w8 (HKL.out _ HK8.out).1).mono ?_; rintro e wq ⟨va, rfl, hoa, hba⟩; obtain ⟨pa, na, ca, rfl⟩ : ∃ pa na ca, va = .slice pa na ca := (by obtain ⟨pa, ca, h⟩ := rd_slice (RdA.of_own hoa); exact ⟨_, _, _, h⟩); have HKQ := Lib.hid (HK8.out.trans (Kept.of_below (S := fun k => p = some ⟨k, 0, none⟩) hba)); have HQA := Lib.hid (RdA.of_own hoa); have HQB := Lib.hid (RdA.of_own (own_below HO8.out hba)); have hzq := (HKL.out _ HKQ.out).2.2.2; clear hoa hba)
          | (go_at_call 26; refine (equal_yes _ _ _ _ _ _ (L ++ [setT A t]) _ HQA.out HQB.out).mono ?_; rintro e wr ⟨rfl, hbr⟩; have HKR := Lib.hid (HKQ.out.trans (Kept.of_below (S := fun k => p = some ⟨k, 0, none⟩) hbr)); have hzr := (HKL.out _ HKR.out).2.2.2; clear hbr hzq)
          | (go_at_call 13; refine (works_ok _ (HE.out.below (HKL.out _ HKR.out).2.2.1)).mono ?_; rintro e ws ⟨rfl, hbs⟩; have HKS := Lib.hid (HKR.out.trans (Kept.of_below (S := fun k => p = some ⟨k, 0, none⟩) hbs)); have hzr := (HKL.out _ HKS.out).2.2.2; clear hbs)
          | ((with_reducible refine at_app ((wa.alloc (.cells #[.int .i64 t, .int .i64 A.k, .int .i64 A.i, .int .u32 A.g, .int .i64 A.y, .int .i64 A.n] 32))) ?_); obtain ⟨p8, c8, w8, hr8, ho8, hk8⟩ := app_one (x := wa.heap.size) (B := setT A t) HN.out (own_below HOa.out (bel_new wa (.cells #[.int .i64 t, .int .i64 A.k, .int .i64 A.i, .int .u32 A.g, .int .i64 A.y, .int .i64 A.n] 32))) (Bk.new wa _ _) (Nat.le_trans HLN.out (by decide)) (Nat.le_trans HB6.out.size (Nat.le_trans HKa.out.size (bel_new wa (.cells #[.int .i64 t, .int .i64 A.k, .int .i64 A.i, .int .u32 A.g, .int .i64 A.y, .int .i64 A.n] 32)).size)); refine step_append_w (by first | rfl | kernel_rfl | go_simp) (some 84) (by rfl) _ _ _ _ (by rfl) _ _ (by rfl) (by rfl) _ _ hr8 ?_; have HKQ := Lib.hid ((HKa.out.alloc _).trans hk8); have HQA := Lib.hid (RdA.of_own (own_kept (own_below HRa.out (bel_new wa (.cells #[.int .i64 t, .int .i64 A.k, .int .i64 A.i, .int .u32 A.g, .int .i64 A.y, .int .i64 A.n] 32))) hk8 (fun g hg e => absurd (HRa.out.lt g hg).1 (by have := HLT.out g e; have := H46.out; show ¬ w6.heap.size ≤ g; omega)))); have HQB := Lib.hid (RdA.of_own ho8); have hzq := (HKL.out _ HKQ.out).2.2.2; clear hr8 ho8 hk8)
          | ((with_reducible refine at_app wa ?_); obtain ⟨p8, c8, w8, hr8, ho8, hk8⟩ := app_one (x := w6.heap.size) (B := setT A t) HN.out HOa.out HXa.out (Nat.le_trans HLN.out (by decide)) (Nat.le_trans HB6.out.size HKa.out.size); refine step_append_w (by first | rfl | kernel_rfl | go_simp) (some 84) (by rfl) _ _ _ _ (by rfl) _ _ (by rfl) (by rfl) _ _ hr8 ?_; have HKQ := Lib.hid (HKa.out.trans hk8); have HQA := Lib.hid (RdA.of_own (own_kept HRa.out hk8 (fun g hg e => absurd (HRa.out.lt g hg).1 (by have := HLT.out g e; have := H46.out; simp; omega)))); have HQB := Lib.hid (RdA.of_own ho8); have hzq := (HKL.out _ HKQ.out).2.2.2; clear hr8 ho8 hk8)
          | ((with_reducible refine at_app ((w6.alloc (.cells #[.int .i64 t, .int .i64 A.k, .int .i64 A.i, .int .u32 A.g, .int .i64 A.y, .int .i64 A.n] 32)).drew) ?_); obtain ⟨p8, c8, w8, hr8, ho8, hk8⟩ := app_one (x := w6.heap.size) (B := setT A t) HN.out HO61.out HX61.out (Nat.le_trans HLN.out (by decide)) (Nat.le_trans HB6.out.size HK1.out.size); refine step_append_w (by first | rfl | kernel_rfl | go_simp) (some 84) (by rfl) _ _ _ _ (by rfl) _ _ (by rfl) (by rfl) _ _ hr8 ?_; have HK8 := Lib.hid (HK1.out.trans hk8); have HO8 := Lib.hid ho8; have hza := (HKL.out _ HK8.out).2.2.2; clear hr8 ho8 hk8 hz0))
        all_goals
          clear hzr
          go_wp2
          go_ret
          exact ⟨rfl, (HKL.out _ HKS.out).2.2.1⟩
  · have hjl : j < L.length := by rw [HN.out]; omega
    have hjn : j < 100 := by have := HLN.out; rw [HN.out] at this; omega
    obtain ⟨gl, off, rfl, hgl, hs5⟩ := HF5.out.rd.cell hjl
    have HLA : Hid ((t < 0 → addE L (setT A t) = 2) ∧ (1099511627776 < t → addE L (setT A t) = 2) ∧ (0 ≤ t → t ≤ 1099511627776 → t < L[j].t → addE L (setT A t) = 8) ∧ (0 ≤ t → t ≤ 1099511627776 → ¬ t < L[j].t → addE L (setT A t) = 0)) := by
      exact ⟨fun h => addE_arg (setT_no (.inl h)), fun h => addE_arg (setT_no (.inr h)), fun h1 h2 h3 => addE_early HN.out (setT_ok HAO.out h1 h2) h3, fun h1 h2 h3 => addE_late HN.out (by have := HLN.out; omega) (setT_ok HAO.out h1 h2) (by show L[j].t ≤ t; omega)⟩
    have e0 := hs5.1
    generalize L[j].t = z at *
    clear hs5
    have HNF : Hid (¬ Foot (w4.alloc (.cells #[.int .i64 t, .int .i64 A.k, .int .i64 A.i, .int .u32 A.g, .int .i64 A.y, .int .i64 A.n] 32)) bk w4.heap.size) := fun hg => absurd (FRESH.out _ hg) (Nat.lt_irrefl _)
    by_cases h0 : t < 0
    · have HAE := Lib.hid (HLA.out.1 h0)
      go_wp2_with fail
      refine (add_ok b bk _ L (setT A t) _ HL5.out (setT_rg HAO.out ht0 ht1) (HE.out.below HB5.out)).mono ?_
      clear c0 c1' c2 c3 c4 c5
      generalize w4.alloc (.cells #[.int .i64 t, .int .i64 A.k, .int .i64 A.i, .int .u32 A.g, .int .i64 A.y, .int .i64 A.n] 32) = w5 at *
      rintro e w6 ⟨rfl, hl6, hk6, hf6⟩
      rw [addL_no (by rw [HAE.out]; decide)] at hl6
      rw [HAE.out]
      have HL6 := Lib.hid hl6
      have HF6 := Lib.hid (HF5.out.add hk6 hf6)
      have HO6 := Lib.hid (own_far HO5.out HF5.out hk6)
      have HB6 := Lib.hid (HB5.out.trans (hk6.below HB5.out.size (fun g hg => Nat.le_trans HSZ.out (HL5.out.foot_le hg).1)))
      have HX6 : Hid (Bk w6 w4.heap.size 32 (setT A t).cl.toArray) := HX5.out.kept hk6 (HNF.out)
      clear hl6 hk6 hf6 HL5 HF5 HO5 HB5 HX5 HNF
      go_wp2_with fail
      refine (all_ok b bk _ L _ HL6.out).mono ?_
      rintro e w7 ⟨va, rfl, ho7, hb7⟩
      obtain ⟨pa, na, ca, rfl⟩ : ∃ pa na ca, va = .slice pa na ca := by obtain ⟨pa, ca, h⟩ := rd_slice (RdA.of_own ho7); exact ⟨_, _, _, h⟩
      have HR7 := Lib.hid (RdA.of_own ho7)
      have HB7 := Lib.hid (bel2 HB6.out hb7)
      have HP7 := Lib.hid (RdA.of_own (own_below HO6.out hb7))
      clear ho7 hb7
      go_wp2_with fail
      refine (equal_yes _ _ _ _ _ _ L _ HR7.out HP7.out).mono ?_
      rintro e w8 ⟨rfl, hb8⟩
      have HB8 := Lib.hid (bel2 HB7.out hb8)
      clear hb8
      go_wp2_with fail
      refine (works_ok _ (HE.out.below HB8.out)).mono ?_
      rintro e w9 ⟨rfl, hb9⟩
      have HB9 := Lib.hid (bel2 HB8.out hb9)
      clear hb9
      go_wp2
      go_ret
      exact ⟨rfl, HB9.out⟩
    · by_cases h1 : 1099511627776 < t
      · have HAE := Lib.hid (HLA.out.2.1 h1)
        go_wp2_with fail
        refine (add_ok b bk _ L (setT A t) _ HL5.out (setT_rg HAO.out ht0 ht1) (HE.out.below HB5.out)).mono ?_
        clear c0 c1' c2 c3 c4 c5
        generalize w4.alloc (.cells #[.int .i64 t, .int .i64 A.k, .int .i64 A.i, .int .u32 A.g, .int .i64 A.y, .int .i64 A.n] 32) = w5 at *
        rintro e w6 ⟨rfl, hl6, hk6, hf6⟩
        rw [addL_no (by rw [HAE.out]; decide)] at hl6
        rw [HAE.out]
        have HL6 := Lib.hid hl6
        have HF6 := Lib.hid (HF5.out.add hk6 hf6)
        have HO6 := Lib.hid (own_far HO5.out HF5.out hk6)
        have HB6 := Lib.hid (HB5.out.trans (hk6.below HB5.out.size (fun g hg => Nat.le_trans HSZ.out (HL5.out.foot_le hg).1)))
        have HX6 : Hid (Bk w6 w4.heap.size 32 (setT A t).cl.toArray) := HX5.out.kept hk6 (HNF.out)
        clear hl6 hk6 hf6 HL5 HF5 HO5 HB5 HX5 HNF
        go_wp2_with fail
        refine (all_ok b bk _ L _ HL6.out).mono ?_
        rintro e w7 ⟨va, rfl, ho7, hb7⟩
        obtain ⟨pa, na, ca, rfl⟩ : ∃ pa na ca, va = .slice pa na ca := by obtain ⟨pa, ca, h⟩ := rd_slice (RdA.of_own ho7); exact ⟨_, _, _, h⟩
        have HR7 := Lib.hid (RdA.of_own ho7)
        have HB7 := Lib.hid (bel2 HB6.out hb7)
        have HP7 := Lib.hid (RdA.of_own (own_below HO6.out hb7))
        clear ho7 hb7
        go_wp2_with fail
        refine (equal_yes _ _ _ _ _ _ L _ HR7.out HP7.out).mono ?_
        rintro e w8 ⟨rfl, hb8⟩
        have HB8 := Lib.hid (bel2 HB7.out hb8)
        clear hb8
        go_wp2_with fail
        refine (works_ok _ (HE.out.below HB8.out)).mono ?_
        rintro e w9 ⟨rfl, hb9⟩
        have HB9 := Lib.hid (bel2 HB8.out hb9)
        clear hb9
        go_wp2
        go_ret
        exact ⟨rfl, HB9.out⟩
      · by_cases h2 : t < z
        · have HAE := Lib.hid (HLA.out.2.2.1 (by omega) (by omega) h2)
          go_wp2_with fail
          refine (add_ok b bk _ L (setT A t) _ HL5.out (setT_rg HAO.out ht0 ht1) (HE.out.below HB5.out)).mono ?_
          clear c0 c1' c2 c3 c4 c5
          generalize w4.alloc (.cells #[.int .i64 t, .int .i64 A.k, .int .i64 A.i, .int .u32 A.g, .int .i64 A.y, .int .i64 A.n] 32) = w5 at *
          rintro e w6 ⟨rfl, hl6, hk6, hf6⟩
          rw [addL_no (by rw [HAE.out]; decide)] at hl6
          rw [HAE.out]
          have HL6 := Lib.hid hl6
          have HF6 := Lib.hid (HF5.out.add hk6 hf6)
          have HO6 := Lib.hid (own_far HO5.out HF5.out hk6)
          have HB6 := Lib.hid (HB5.out.trans (hk6.below HB5.out.size (fun g hg => Nat.le_trans HSZ.out (HL5.out.foot_le hg).1)))
          have HX6 : Hid (Bk w6 w4.heap.size 32 (setT A t).cl.toArray) := HX5.out.kept hk6 (HNF.out)
          clear hl6 hk6 hf6 HL5 HF5 HO5 HB5 HX5 HNF
          go_wp2_with fail
          refine (all_ok b bk _ L _ HL6.out).mono ?_
          rintro e w7 ⟨va, rfl, ho7, hb7⟩
          obtain ⟨pa, na, ca, rfl⟩ : ∃ pa na ca, va = .slice pa na ca := by obtain ⟨pa, ca, h⟩ := rd_slice (RdA.of_own ho7); exact ⟨_, _, _, h⟩
          have HR7 := Lib.hid (RdA.of_own ho7)
          have HB7 := Lib.hid (bel2 HB6.out hb7)
          have HP7 := Lib.hid (RdA.of_own (own_below HO6.out hb7))
          clear ho7 hb7
          go_wp2_with fail
          refine (equal_yes _ _ _ _ _ _ L _ HR7.out HP7.out).mono ?_
          rintro e w8 ⟨rfl, hb8⟩
          have HB8 := Lib.hid (bel2 HB7.out hb8)
          clear hb8
          go_wp2_with fail
          refine (works_ok _ (HE.out.below HB8.out)).mono ?_
          rintro e w9 ⟨rfl, hb9⟩
          have HB9 := Lib.hid (bel2 HB8.out hb9)
          clear hb9
          go_wp2
          go_ret
          exact ⟨rfl, HB9.out⟩
        · have HAE := Lib.hid (HLA.out.2.2.2 (by omega) (by omega) h2)
          go_wp2_with fail
          refine (add_ok b bk _ L (setT A t) _ HL5.out (setT_rg HAO.out ht0 ht1) (HE.out.below HB5.out)).mono ?_
          clear c0 c1' c2 c3 c4 c5
          generalize w4.alloc (.cells #[.int .i64 t, .int .i64 A.k, .int .i64 A.i, .int .u32 A.g, .int .i64 A.y, .int .i64 A.n] 32) = w5 at *
          rintro e w6 ⟨rfl, hl6, hk6, hf6⟩
          rw [addL_ok HAE.out] at hl6
          rw [HAE.out]
          have HL6 := Lib.hid hl6
          have HF6 := Lib.hid (HF5.out.add hk6 hf6)
          have HO6 := Lib.hid (own_far HO5.out HF5.out hk6)
          have HB6 := Lib.hid (HB5.out.trans (hk6.below HB5.out.size (fun g hg => Nat.le_trans HSZ.out (HL5.out.foot_le hg).1)))
          have HX6 : Hid (Bk w6 w4.heap.size 32 (setT A t).cl.toArray) := HX5.out.kept hk6 (HNF.out)
          clear hl6 hk6 hf6 HL5 HF5 HO5 HB5 HX5 HNF
          go_wp2
          have HPF : Hid (∀ k, (some ⟨gl, off, none⟩ : Option Addr) = some ⟨k, 0, none⟩ → ¬ Foot w6 bk k) := fun k e => (HF6.out.apart k 0 (j + 1) c1 (by rw [e])).1
          have HOB : Hid (∀ k, (some ⟨gl, off, none⟩ : Option Addr) = some ⟨k, 0, none⟩ → (Value.slice (some ⟨gl, off, none⟩) (j + 1) c1).ownBlock = some k) := fun k e => by rw [e]; rfl
          have HKL : Hid (∀ W, Kept (fun k => (some ⟨gl, off, none⟩ : Option Addr) = some ⟨k, 0, none⟩) w6 W → LedW W b bk w1.heap.size (L ++ [setT A t]) ∧ Bk W w4.heap.size 32 (setT A t).cl.toArray ∧ Below w.heap.size w W ∧ (W.cell? ⟨w4.heap.size, 0, none⟩ = some (.int .i64 t) ∧ W.cell? ⟨w4.heap.size, 1, none⟩ = some (.int .i64 A.k) ∧ W.cell? ⟨w4.heap.size, 2, none⟩ = some (.int .i64 A.i) ∧ W.cell? ⟨w4.heap.size, 3, none⟩ = some (.int .u32 A.g) ∧ W.cell? ⟨w4.heap.size, 4, none⟩ = some (.int .i64 A.y) ∧ W.cell? ⟨w4.heap.size, 5, none⟩ = some (.int .i64 A.n))) := fun W hW => by
            have h1 := HL6.out.kept hW (fun e => absurd (own_type HO6.out (HOB.out _ e) HL6.out.hb) (by decide)) (fun g hg e => HPF.out g e hg)
            have h2 := HX6.out.kept hW (fun e => absurd (HLT.out _ e) (Nat.lt_irrefl _))
            exact ⟨h1.1, h2, ⟨hW.os.trans HB6.out.os, hW.tape.trans HB6.out.tape, hW.output.trans HB6.out.output, Nat.le_trans HB6.out.size hW.size, fun k hk => (hW.block k (Nat.lt_of_lt_of_le hk HB6.out.size) (fun e => absurd (HO6.out.lt k (HOB.out k e)).1 (by omega))).trans (HB6.out.block k hk)⟩, h2.cell 0, h2.cell 1, h2.cell 2, h2.cell 3, h2.cell 4, h2.cell 5⟩
          have HK0 : Hid (Kept (fun k => (some ⟨gl, off, none⟩ : Option Addr) = some ⟨k, 0, none⟩) w6 w6.drew) := (Kept.refl _ _).drew
          have HK1 : Hid (Kept (fun k => (some ⟨gl, off, none⟩ : Option Addr) = some ⟨k, 0, none⟩) w6 (w6.alloc (.cells #[.int .i64 t, .int .i64 A.k, .int .i64 A.i, .int .u32 A.g, .int .i64 A.y, .int .i64 A.n] 32)).drew) := ((Kept.refl _ _).alloc _).drew
          have HO60 : Hid (w6.drew.ownsRow w.heap.size 32 6 (.slice (some ⟨gl, off, none⟩) (j + 1) c1) L.length (cls L)) := own_same HO6.out (fun _ _ => rfl)
          have HO61 : Hid ((w6.alloc (.cells #[.int .i64 t, .int .i64 A.k, .int .i64 A.i, .int .u32 A.g, .int .i64 A.y, .int .i64 A.n] 32)).drew.ownsRow w.heap.size 32 6 (.slice (some ⟨gl, off, none⟩) (j + 1) c1) L.length (cls L)) := own_same (own_below HO6.out (bel_new _ _)) (fun _ _ => rfl)
          have HX61 : Hid (Bk (w6.alloc (.cells #[.int .i64 t, .int .i64 A.k, .int .i64 A.i, .int .u32 A.g, .int .i64 A.y, .int .i64 A.n] 32)).drew w6.heap.size 32 (setT A t).cl.toArray) := Bk.new w6 _ _
          have H46 : Hid (w4.heap.size ≤ w6.heap.size) := Nat.le_of_lt HX6.out.lt
          have hz0 := (HKL.out _ HK0.out).2.2.2
          go_region_held3 (fun W => W.cell? ⟨w4.heap.size, 0, none⟩ = some (.int .i64 t) ∧ W.cell? ⟨w4.heap.size, 1, none⟩ = some (.int .i64 A.k) ∧ W.cell? ⟨w4.heap.size, 2, none⟩ = some (.int .i64 A.i) ∧ W.cell? ⟨w4.heap.size, 3, none⟩ = some (.int .u32 A.g) ∧ W.cell? ⟨w4.heap.size, 4, none⟩ = some (.int .i64 A.y) ∧ W.cell? ⟨w4.heap.size, 5, none⟩ = some (.int .i64 A.n)) (first | (with_reducible exact hza) | (with_reducible exact hzq) | (with_reducible exact hzr) | (with_reducible exact (HKL.out _ HK1.out).2.2.2) | (with_reducible exact (HKL.out _ (HKa.out.alloc _)).2.2.2) | exact hz0)
            (first
            | (go_at_call 31; (with_reducible refine at_w (w6.drew) ?_); refine (all_ok b bk _ (L ++ [setT A t]) w6.drew (HKL.out _ HK0.out).1).mono ?_; rintro e wa ⟨va, rfl, hoa, hba⟩; obtain ⟨pa, na, ca, rfl⟩ : ∃ pa na ca, va = .slice pa na ca := (by obtain ⟨pa, ca, h⟩ := rd_slice (RdA.of_own hoa); exact ⟨_, _, _, h⟩); have HKa := Lib.hid (HK0.out.trans ((Kept.of_below (S := fun k => (some ⟨gl, off, none⟩ : Option Addr) = some ⟨k, 0, none⟩) hba))); have HOa := Lib.hid (own_below HO60.out hba); have HRa := Lib.hid hoa; clear hoa hba hz0; have hza := (HKL.out _ HKa.out).2.2.2)
            | (go_at_call 31; (with_reducible refine at_w ((w6.alloc (.cells #[.int .i64 t, .int .i64 A.k, .int .i64 A.i, .int .u32 A.g, .int .i64 A.y, .int .i64 A.n] 32)).drew) ?_); refine (all_ok b bk _ (L ++ [setT A t]) (w6.alloc (.cells #[.int .i64 t, .int .i64 A.k, .int .i64 A.i, .int .u32 A.g, .int .i64 A.y, .int .i64 A.n] 32)).drew (HKL.out _ HK1.out).1).mono ?_; rintro e wa ⟨va, rfl, hoa, hba⟩; obtain ⟨pa, na, ca, rfl⟩ : ∃ pa na ca, va = .slice pa na ca := (by obtain ⟨pa, ca, h⟩ := rd_slice (RdA.of_own hoa); exact ⟨_, _, _, h⟩); have HKa := Lib.hid (HK1.out.trans ((Kept.of_below (S := fun k => (some ⟨gl, off, none⟩ : Option Addr) = some ⟨k, 0, none⟩) hba))); have HOa := Lib.hid (own_below HO61.out hba); have HXa := Lib.hid (HX61.out.below hba); have HRa := Lib.hid hoa; clear hoa hba hz0; have hza := (HKL.out _ HKa.out).2.2.2)
            | (go_at_call 31; (with_reducible refine at_w w8 ?_); refine (all_ok b bk _ (L ++ [setT A t]) w8 (HKL.out _ HK8.out).1).mono ?_; rintro e wq ⟨va, rfl, hoa, hba⟩; obtain ⟨pa, na, ca, rfl⟩ : ∃ pa na ca, va = .slice pa na ca := (by obtain ⟨pa, ca, h⟩ := rd_slice (RdA.of_own hoa); exact ⟨_, _, _, h⟩); have HKQ := Lib.hid (HK8.out.trans (Kept.of_below (S := fun k => (some ⟨gl, off, none⟩ : Option Addr) = some ⟨k, 0, none⟩) hba)); have HQA := Lib.hid (RdA.of_own hoa); have HQB := Lib.hid (RdA.of_own (own_below HO8.out hba)); have hzq := (HKL.out _ HKQ.out).2.2.2; clear hoa hba)
            | (go_at_call 26; refine (equal_yes _ _ _ _ _ _ (L ++ [setT A t]) _ HQA.out HQB.out).mono ?_; rintro e wr ⟨rfl, hbr⟩; have HKR := Lib.hid (HKQ.out.trans (Kept.of_below (S := fun k => (some ⟨gl, off, none⟩ : Option Addr) = some ⟨k, 0, none⟩) hbr)); have hzr := (HKL.out _ HKR.out).2.2.2; clear hbr hzq)
            | (go_at_call 13; refine (works_ok _ (HE.out.below (HKL.out _ HKR.out).2.2.1)).mono ?_; rintro e ws ⟨rfl, hbs⟩; have HKS := Lib.hid (HKR.out.trans (Kept.of_below (S := fun k => (some ⟨gl, off, none⟩ : Option Addr) = some ⟨k, 0, none⟩) hbs)); have hzr := (HKL.out _ HKS.out).2.2.2; clear hbs)
            | ((with_reducible refine at_app ((wa.alloc (.cells #[.int .i64 t, .int .i64 A.k, .int .i64 A.i, .int .u32 A.g, .int .i64 A.y, .int .i64 A.n] 32))) ?_); obtain ⟨p8, c8, w8, hr8, ho8, hk8⟩ := app_one (x := wa.heap.size) (B := setT A t) HN.out (own_below HOa.out (bel_new wa (.cells #[.int .i64 t, .int .i64 A.k, .int .i64 A.i, .int .u32 A.g, .int .i64 A.y, .int .i64 A.n] 32))) (Bk.new wa _ _) (Nat.le_trans HLN.out (by decide)) (Nat.le_trans HB6.out.size (Nat.le_trans HKa.out.size (bel_new wa (.cells #[.int .i64 t, .int .i64 A.k, .int .i64 A.i, .int .u32 A.g, .int .i64 A.y, .int .i64 A.n] 32)).size)); refine step_append_w (by first | rfl | kernel_rfl | go_simp) (some 84) (by rfl) _ _ _ _ (by rfl) _ _ (by rfl) (by rfl) _ _ hr8 ?_; have HKQ := Lib.hid ((HKa.out.alloc _).trans hk8); have HQA := Lib.hid (RdA.of_own (own_kept (own_below HRa.out (bel_new wa (.cells #[.int .i64 t, .int .i64 A.k, .int .i64 A.i, .int .u32 A.g, .int .i64 A.y, .int .i64 A.n] 32))) hk8 (fun g hg e => absurd (HRa.out.lt g hg).1 (by have := HLT.out g e; have := H46.out; show ¬ w6.heap.size ≤ g; omega)))); have HQB := Lib.hid (RdA.of_own ho8); have hzq := (HKL.out _ HKQ.out).2.2.2; clear hr8 ho8 hk8)
            | ((with_reducible refine at_app wa ?_); obtain ⟨p8, c8, w8, hr8, ho8, hk8⟩ := app_one (x := w6.heap.size) (B := setT A t) HN.out HOa.out HXa.out (Nat.le_trans HLN.out (by decide)) (Nat.le_trans HB6.out.size HKa.out.size); refine step_append_w (by first | rfl | kernel_rfl | go_simp) (some 84) (by rfl) _ _ _ _ (by rfl) _ _ (by rfl) (by rfl) _ _ hr8 ?_; have HKQ := Lib.hid (HKa.out.trans hk8); have HQA := Lib.hid (RdA.of_own (own_kept HRa.out hk8 (fun g hg e => absurd (HRa.out.lt g hg).1 (by have := HLT.out g e; have := H46.out; simp; omega)))); have HQB := Lib.hid (RdA.of_own ho8); have hzq := (HKL.out _ HKQ.out).2.2.2; clear hr8 ho8 hk8)
            | ((with_reducible refine at_app ((w6.alloc (.cells #[.int .i64 t, .int .i64 A.k, .int .i64 A.i, .int .u32 A.g, .int .i64 A.y, .int .i64 A.n] 32)).drew) ?_); obtain ⟨p8, c8, w8, hr8, ho8, hk8⟩ := app_one (x := w6.heap.size) (B := setT A t) HN.out HO61.out HX61.out (Nat.le_trans HLN.out (by decide)) (Nat.le_trans HB6.out.size HK1.out.size); refine step_append_w (by first | rfl | kernel_rfl | go_simp) (some 84) (by rfl) _ _ _ _ (by rfl) _ _ (by rfl) (by rfl) _ _ hr8 ?_; have HK8 := Lib.hid (HK1.out.trans hk8); have HO8 := Lib.hid ho8; have hza := (HKL.out _ HK8.out).2.2.2; clear hr8 ho8 hk8 hz0))
          all_goals
            clear hzr
            go_wp2
            go_ret
            exact ⟨rfl, (HKL.out _ HKS.out).2.2.1⟩
end Go.Proofs.YtenggngcigkakaaGreatDoor
