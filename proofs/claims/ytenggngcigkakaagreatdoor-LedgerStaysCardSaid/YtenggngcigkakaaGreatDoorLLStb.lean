/- LedgerStays gives true: the other walks. -/
import Derived.Test.YtenggngcigkakaaGreatDoorLLSta
namespace Go.Proofs.YtenggngcigkakaaGreatDoor
open Go.RowKit Go.ChangeShapes

set_option maxRecDepth 100000 in
set_option maxHeartbeats 8000000 in
theorem lSta_4 (a : Option Addr) (n c : Nat) (l : List Ent) (x : Nat) (hx : x ≤ 255) (hq : (x : Int) % 7 = 4) (w : World) (hl : RdE w (.slice a n c) l) (he : EnvL w) :
    Calls Tryz.prog 11 #[.slice a n c, .int .u8 x] w fun e w' => e = .returned (.bool true) ∧ Below w.heap.size w w' := by
  have HE := Lib.hid he
  have HL := Lib.hid hl
  have HRG : Hid (∀ x ∈ l, x.Rg) := by obtain ⟨_, _, _, _, _, h, _⟩ := hl; exact h
  have HST : Hid (Steady (entL 0 (l.take 100))) := entL_steady _ (fun x hx => HRG.out x (List.mem_of_mem_take hx)) 0 (by rw [List.length_take]; omega) (by rw [List.length_take]; omega)
  have HLN : Hid ((entL 0 (l.take 100)).length ≤ 100) := by rw [Hid, entL_length, List.length_take]; omega
  clear he hl HRG
  have HA : Hid (∀ W, RdE W (.slice a n c) l → Calls Tryz.prog 39 #[.slice a n c] W (NewA (entL 0 (l.take 100)) W)) := fun W h => atts_ok a n c l W h
  generalize entL 0 (l.take 100) = L at *
  obtain ⟨N, hN⟩ : ∃ N, L.length = N := ⟨_, rfl⟩
  have HN := Lib.hid hN
  have hN100 : N ≤ 100 := by have := HLN.out; omega
  clear hN
  go_enter Tryz.func11, Tryz.ntmps11
  go_wp2_with fail
  refine (HA.out _ HL.out).mono ?_
  rintro e w1 ⟨v, rfl, ho, hb1⟩
  obtain ⟨p, c1, rfl⟩ : ∃ p c1, v = .slice p N c1 := by have := rd_slice (RdA.of_own ho); rw [HN.out] at this; exact this
  have HB1 := Lib.hid hb1
  have HO1 := Lib.hid ho
  clear ho hb1 HL HA
  go_wp2_with fail
  refine (filled_ok p _ c1 L w1 (RdA.of_own HO1.out) (own_lt HO1.out) HST.out (HE.out.below HB1.out)).mono ?_
  rintro e w2 ⟨b, bk, rfl, hl2, hf2, hb2⟩
  have HW2 : Hid (StW w w2 b bk w1.heap.size p N c1 L) := ⟨hl2, own_below HO1.out hb2, hf2, bel2 HB1.out hb2, HB1.out.size⟩
  clear hl2 hf2 hb2 HB1 HO1
  go_wp2_with fail
  refine (file_ok _).mono ?_
  rintro e w3 ⟨rfl, hb3⟩
  have HW3 := Lib.hid (HW2.out.below hb3)
  have HFT : Hid (∀ g, Foot w3 bk g → g < w3.heap.size) := fun g hg => (HW3.out.led.foot_le hg).2
  clear hb3 HW2
  unfold okey
  go_wp2_with fail
  have hB4 := bel_new w3 (.cells #[.int .i64 1099511627776, .int .i64 1, .int .i64 3, .int .u32 1, .int .i64 1, .int .i64 1] 32)
  have hx4 : Bk (w3.alloc (.cells #[.int .i64 1099511627776, .int .i64 1, .int .i64 3, .int .u32 1, .int .i64 1, .int .i64 1] 32)) w3.heap.size 32 #[.int .i64 1099511627776, .int .i64 1, .int .i64 3, .int .u32 1, .int .i64 1, .int .i64 1] := Bk.new w3 _ _
  have HBB : Hid (b ≠ w3.heap.size) := fun e => absurd HW3.out.led.hb.lt (by omega)
  have HPP : Hid (∀ g, p = some ⟨g, 0, none⟩ → g ≠ w3.heap.size) := fun g e => by
    have := own_lt HW3.out.row g 0 N c1 (by rw [e])
    omega
  have HZ : Hid (w.heap.size ≤ w3.heap.size) := HW3.out.bel.size
  refine (pick_ok x hx _).mono ?_
  rintro e w4 ⟨⟨m, rfl, hm⟩, hb4⟩
  have HM := Lib.hid hm
  have hx4' := hx4.below hb4
  have HW4 := Lib.hid (HW3.out.below (bel2 hB4 hb4))
  have HF4 : Hid (∀ g, Foot w4 bk g → g < w3.heap.size) := fun g hg => HFT.out g (((HW3.out.led.below (bel2 hB4 hb4)).2 g).1 hg)
  have HX4 := Lib.hid hx4'
  have dz := hx4'.cell 4
  have df := hx4'.frozen 4
  clear hm hx4' hx4 hb4 hB4 HW3 HFT
  go_wp2
  have hkp : Kept (fun g => g = w3.heap.size) w4 (w4.setCell ⟨w3.heap.size, 4, none⟩ (.int .i64 m)) := Kept.put (S := fun g => g = w3.heap.size) (Kept.refl _ _) (p := ⟨w3.heap.size, 4, none⟩) (.inr rfl) _
  have HX5 : Hid (Bk (w4.setCell ⟨w3.heap.size, 4, none⟩ (.int .i64 m)) w3.heap.size 32 (⟨1099511627776, 1, 3, 1, m, 1⟩ : Att).cl.toArray) := HX4.out.put 4 _
  have HW5 : Hid (StW w (w4.setCell ⟨w3.heap.size, 4, none⟩ (.int .i64 m)) b bk w1.heap.size p N c1 L) := HW4.out.turn hkp HZ.out HBB.out HF4.out HPP.out
  have HF5 : Hid (∀ g, Foot (w4.setCell ⟨w3.heap.size, 4, none⟩ (.int .i64 m)) bk g → g < w3.heap.size) := fun g hg => HF4.out g (((HW4.out.led.kept hkp HBB.out (fun g hg e => absurd (HF4.out g hg) (by omega))).2 g).1 hg)
  clear HX4 HW4 HF4 dz df hkp HBB HPP HZ
  generalize w4.setCell ⟨w3.heap.size, 4, none⟩ (.int .i64 m) = w5 at *
  have HNO : Hid (¬ (⟨1099511627776, 1, 3, 1, m, 1⟩ : Att).Ok) := fun k => by
    have h0 := k.y0
    have h1 := k.y1
    simp only at h0 h1
    rcases HM.out with h | h | h <;> omega
  have HRGB : Hid (⟨1099511627776, 1, 3, 1, m, 1⟩ : Att).Rg := by
    have hm : -9223372036854775808 ≤ m ∧ m ≤ 9223372036854775807 := by rcases HM.out with h | h | h <;> omega
    constructor <;> simp only <;> omega
  obtain ⟨B, hB⟩ : ∃ B, (⟨1099511627776, 1, 3, 1, m, 1⟩ : Att) = B := ⟨_, rfl⟩
  rw [hB] at HNO HRGB HX5
  have HPB : Hid (∀ W q m k, RdA W (.slice q m k) (L ++ [B]) → EnvL W → Calls Tryz.prog 35 #[.slice q m k] W (TextV [] 2 W)) := fun W q m k hr he =>
    lprint_bad q m k _ W hr (fun y hy => by
      rcases List.mem_append.1 hy with hy | hy
      · exact (HW5.out.led.ok y hy).rg
      · obtain rfl := List.mem_singleton.1 hy
        exact HRGB.out) (fun h => HNO.out (h B (by simp))) he
  have HBC : Hid (B.cl.toArray = #[.int .i64 1099511627776, .int .i64 1, .int .i64 3, .int .u32 1, .int .i64 m, .int .i64 1]) := by rw [Hid, ← hB]; rfl
  have HBV : Hid (.agg #[.int .i64 1099511627776, .int .i64 1, .int .i64 3, .int .u32 1, .int .i64 m, .int .i64 1] = B.val) := by rw [Hid, ← hB]; rfl
  have HAE : Hid (addE L B = 2) := addE_arg HNO.out
  clear hB
  have HS : Hid (∀ W, Below w5.heap.size w5 W → (W.cell? ⟨w3.heap.size, 0, none⟩ = some (.int .i64 1099511627776) ∧ W.cell? ⟨w3.heap.size, 1, none⟩ = some (.int .i64 1) ∧ W.cell? ⟨w3.heap.size, 2, none⟩ = some (.int .i64 3) ∧ W.cell? ⟨w3.heap.size, 3, none⟩ = some (.int .u32 1) ∧ W.cell? ⟨w3.heap.size, 4, none⟩ = some (.int .i64 m) ∧ W.cell? ⟨w3.heap.size, 5, none⟩ = some (.int .i64 1))) := fun W hW => by
    have h2 := HX5.out.below hW
    rw [HBC.out] at h2
    exact ⟨h2.cell 0, h2.cell 1, h2.cell 2, h2.cell 3, h2.cell 4, h2.cell 5⟩
  have HGE0 : Hid (∀ (wa : World) pa ca k, wa.ownsRow w5.drew.heap.size 32 6 (.slice pa N ca) L.length (cls L) → pa = some ⟨k, 0, none⟩ → w5.heap.size ≤ k) := fun wa pa ca k h e => (h.lt k (by rw [e]; rfl)).1
  have HGE1 : Hid (∀ (wa : World) pa ca k, wa.ownsRow (w5.alloc (.cells #[.int .i64 1099511627776, .int .i64 1, .int .i64 3, .int .u32 1, .int .i64 m, .int .i64 1] 32)).drew.heap.size 32 6 (.slice pa N ca) L.length (cls L) → pa = some ⟨k, 0, none⟩ → w5.heap.size ≤ k) := fun wa pa ca k h e => Nat.le_trans (bel_new w5 (.cells #[.int .i64 1099511627776, .int .i64 1, .int .i64 3, .int .u32 1, .int .i64 m, .int .i64 1] 32)).size (h.lt k (by rw [e]; rfl)).1
  have HD0 : Hid (Below w5.heap.size w5 w5.drew) := bel_drew (Below.refl _ _)
  have HD1 : Hid (Below w5.heap.size w5 (w5.alloc (.cells #[.int .i64 1099511627776, .int .i64 1, .int .i64 3, .int .u32 1, .int .i64 m, .int .i64 1] 32)).drew) := bel_drew (bel_new _ _)
  have HX51 : Hid (Bk (w5.alloc (.cells #[.int .i64 1099511627776, .int .i64 1, .int .i64 3, .int .u32 1, .int .i64 m, .int .i64 1] 32)).drew w5.heap.size 32 B.cl.toArray) := by rw [Hid, HBC.out]; exact Bk.new w5 _ _
  have hz0 := HS.out _ HD0.out
  go_region_held3 (fun W => W.cell? ⟨w3.heap.size, 0, none⟩ = some (.int .i64 1099511627776) ∧ W.cell? ⟨w3.heap.size, 1, none⟩ = some (.int .i64 1) ∧ W.cell? ⟨w3.heap.size, 2, none⟩ = some (.int .i64 3) ∧ W.cell? ⟨w3.heap.size, 3, none⟩ = some (.int .u32 1) ∧ W.cell? ⟨w3.heap.size, 4, none⟩ = some (.int .i64 m) ∧ W.cell? ⟨w3.heap.size, 5, none⟩ = some (.int .i64 1)) (first | (with_reducible exact hza) | (with_reducible exact hzq) | (with_reducible exact hzr) | (with_reducible exact HS.out _ HD1.out) | (with_reducible exact HS.out _ (bel2 HDa.out (bel_new _ _))) | exact hz0)
    (first
    | (go_at_call 34; (with_reducible refine at_w w5.drew ?_); refine (clone_ok p N c1 L w5.drew (HW5.out.far.rd.below HD0.out) (Nat.le_trans HLN.out (by decide))).mono ?_; rintro e wa ⟨va, rfl, hoa, hba⟩; obtain ⟨pa, ca, rfl⟩ : ∃ pa ca, va = .slice pa N ca := (by have h := rd_slice (RdA.of_own hoa); rw [HN.out] at h; exact h); have HDa := Lib.hid (bel2 HD0.out hba); have HRa := Lib.hid hoa; have hza := HS.out _ HDa.out; clear hoa hba hz0)
    | (go_at_call 34; (with_reducible refine at_w (w5.alloc (.cells #[.int .i64 1099511627776, .int .i64 1, .int .i64 3, .int .u32 1, .int .i64 m, .int .i64 1] 32)).drew ?_); refine (clone_ok p N c1 L (w5.alloc (.cells #[.int .i64 1099511627776, .int .i64 1, .int .i64 3, .int .u32 1, .int .i64 m, .int .i64 1] 32)).drew (HW5.out.far.rd.below HD1.out) (Nat.le_trans HLN.out (by decide))).mono ?_; rintro e wa ⟨va, rfl, hoa, hba⟩; obtain ⟨pa, ca, rfl⟩ : ∃ pa ca, va = .slice pa N ca := (by have h := rd_slice (RdA.of_own hoa); rw [HN.out] at h; exact h); have HXa := Lib.hid (HX51.out.below hba); have HXA := Lib.hid hba.size; have HDa := Lib.hid (bel2 HD1.out hba); have HRa := Lib.hid hoa; have hza := HS.out _ HDa.out; clear hoa hba hz0)
    | (go_at_call 35; refine (HPB.out _ _ _ _ HRq.out (HE.out.below (bel2 HW5.out.bel HDq.out))).mono ?_; rintro e wr ⟨rfl, hbr⟩; have HDr := Lib.hid (bel2 HDq.out hbr); have hzr := HS.out _ HDr.out; clear hbr hzq)
    | ((with_reducible refine at_app wa ?_); obtain ⟨p8, c8, w8, hr8, ho8, hk8⟩ := app_one (x := w5.heap.size) (B := B) HN.out HRa.out HXa.out (Nat.le_trans HLN.out (by decide)) HXA.out; refine step_append_w (by first | rfl | kernel_rfl | go_simp) (some 52) (by rfl) _ _ _ _ (by rfl) _ _ (by rfl) (by rfl) _ _ hr8 ?_; have HDq := Lib.hid (HDa.out.trans (hk8.below HDa.out.size (fun k hk => HGE1.out wa pa ca k HRa.out hk))); have HRq := Lib.hid (RdA.of_own ho8); have hzq := HS.out _ HDq.out; clear hr8 ho8 hk8)
    | ((with_reducible refine at_app (wa.alloc (.cells #[.int .i64 1099511627776, .int .i64 1, .int .i64 3, .int .u32 1, .int .i64 m, .int .i64 1] 32)) ?_); obtain ⟨p8, c8, w8, hr8, ho8, hk8⟩ := app_one (x := wa.heap.size) (B := B) HN.out (own_below HRa.out (bel_new wa (.cells #[.int .i64 1099511627776, .int .i64 1, .int .i64 3, .int .u32 1, .int .i64 m, .int .i64 1] 32))) (by rw [HBC.out]; exact Bk.new wa _ _) (Nat.le_trans HLN.out (by decide)) (Nat.le_trans HDa.out.size (bel_new wa (.cells #[.int .i64 1099511627776, .int .i64 1, .int .i64 3, .int .u32 1, .int .i64 m, .int .i64 1] 32)).size); refine step_append_w (by first | rfl | kernel_rfl | go_simp) (some 52) (by rfl) _ _ _ _ (by rfl) _ _ (by rfl) (by rfl) _ _ hr8 ?_; have HDq := Lib.hid ((bel2 HDa.out (bel_new wa (.cells #[.int .i64 1099511627776, .int .i64 1, .int .i64 3, .int .u32 1, .int .i64 m, .int .i64 1] 32))).trans (hk8.below (bel2 HDa.out (bel_new wa (.cells #[.int .i64 1099511627776, .int .i64 1, .int .i64 3, .int .u32 1, .int .i64 m, .int .i64 1] 32))).size (fun k hk => HGE0.out wa pa ca k HRa.out hk))); have HRq := Lib.hid (RdA.of_own ho8); have hzq := HS.out _ HDq.out; clear hr8 ho8 hk8))
  all_goals
    clear hzr
    have HWr := Lib.hid (HW5.out.below HDr.out)
    have HXr := Lib.hid (HX5.out.below HDr.out)
    have HNFr : Hid (¬ Foot wr bk w3.heap.size) := fun hg => absurd (HF5.out _ (((HW5.out.led.below HDr.out).2 _).1 hg)) (Nat.lt_irrefl _)
    clear HW5 HX5 HF5 HD0 HD1 HX51 HDr HS HPB HGE0 HGE1
    have hh := HXr.out
    rw [HBC.out] at hh
    have d0 := hh.cell 0
    have d1 := hh.cell 1
    have d2 := hh.cell 2
    have d3 := hh.cell 3
    have d4 := hh.cell 4
    have d5 := hh.cell 5
    clear hh
    go_wp2_with fail
    rw [HBV.out]
    refine (add_ok b bk _ L B wr HWr.out.led HRGB.out (HE.out.below HWr.out.bel)).mono ?_
    rintro e w9 ⟨rfl, hl9, hk9, hf9⟩
    rw [addL_no (by rw [HAE.out]; decide)] at hl9
    rw [HAE.out]
    have HW9 := Lib.hid (HWr.out.add hl9 hk9 hf9)
    have HX9 : Hid (Bk w9 w3.heap.size 32 B.cl.toArray) := HXr.out.kept hk9 HNFr.out
    clear d0 d1 d2 d3 d4 d5 hl9 hk9 hf9 HWr HXr HNFr
    have hh := HX9.out
    rw [HBC.out] at hh
    have d0 := hh.cell 0
    have d1 := hh.cell 1
    have d2 := hh.cell 2
    have d3 := hh.cell 3
    have d4 := hh.cell 4
    have d5 := hh.cell 5
    clear hh
    go_wp2_with fail
    rw [HBV.out]
    refine (chk_att B HRGB.out w9 (HE.out.below HW9.out.bel)).mono ?_
    rintro e w10 ⟨rfl, hb10⟩
    rw [chkE_bad HNO.out]
    have HW10 := Lib.hid (HW9.out.below hb10)
    clear d0 d1 d2 d3 d4 d5 hb10 HW9 HX9
    go_wp2_with fail
    refine (all_ok b bk _ L w10 HW10.out.led).mono ?_
    rintro e w11 ⟨v, rfl, ho, hb11⟩
    obtain ⟨pa, ca, rfl⟩ : ∃ pa ca, v = .slice pa N ca := by have := rd_slice (RdA.of_own ho); rw [HN.out] at this; exact this
    obtain ⟨w12, hclr, hb12⟩ := run_clear_own ho 0
    have HW12 := Lib.hid (HW10.out.below (hb11.trans hb12))
    clear ho hb11 hb12 HW10
    go_wp2_with fail
    refine (file_ok _).mono ?_
    rintro e w13 ⟨rfl, hb13⟩
    have HW13 := Lib.hid (HW12.out.below hb13)
    clear hb13 HW12 hclr
    go_wp2_with fail
    refine (ofs_ok b bk _ L 1 3 1 rgo1 w13 HW13.out.led).mono ?_
    rintro e w14 ⟨v, rfl, ho, hb14⟩
    obtain ⟨pb, nb, cb, rfl⟩ : ∃ pb nb cb, v = .slice pb nb cb := by obtain ⟨q, k, h⟩ := rd_slice (RdA.of_own ho); exact ⟨_, _, _, h⟩
    obtain ⟨w15, hclr, hb15⟩ := run_clear_own ho 0
    have HW15 := Lib.hid (HW13.out.below (hb14.trans hb15))
    clear ho hb14 hb15 HW13
    go_wp2_with fail
    refine (copy_ok b bk _ L w15 HW15.out.led).mono ?_
    rintro e w16 ⟨b', bk', rfl, hge, hl16, hb16⟩
    have HL16 := Lib.hid hl16
    have HD16 := Lib.hid hb16
    clear hclr hge hl16 hb16
    go_wp2_with fail
    refine (lease_ok _).mono ?_
    rintro e w17 ⟨rfl, hb17⟩
    have HL17 := Lib.hid (HL16.out.below hb17).1
    have HD17 := Lib.hid (bel2 HD16.out hb17)
    clear hb17 HL16 HD16
    unfold okey
    go_wp2_with fail
    refine (late_ok b' bk' _ L w17 HL17.out (by have := HLN.out; omega) (HE.out.below (HW15.out.below HD17.out).bel)).mono ?_
    rintro e w18 ⟨rfl, hl18, hk18⟩
    have HW18 := Lib.hid (HW15.out.below (HD17.out.trans (hk18.below HD17.out.size (fun g hg => (HL17.out.foot_le hg).1))))
    have HL18 := Lib.hid hl18
    clear hl18 hk18 HW15 HL17 HD17
    go_wp2_with fail
    refine (all_ok b bk _ L w18 HW18.out.led).mono ?_
    rintro e w19 ⟨v, rfl, ho, hb19⟩
    obtain ⟨pd, cd, rfl⟩ : ∃ pd cd, v = .slice pd N cd := by have := rd_slice (RdA.of_own ho); rw [HN.out] at this; exact this
    have HW19 := Lib.hid (HW18.out.below hb19)
    have HL19 := Lib.hid (HL18.out.below hb19).1
    have HR19 := Lib.hid (RdA.of_own ho)
    clear ho hb19 HW18 HL18
    go_wp2_with fail
    refine (equal_yes _ _ _ _ _ _ L _ HR19.out HW19.out.far.rd).mono ?_
    rintro e w20 ⟨rfl, hb20⟩
    have HW20 := Lib.hid (HW19.out.below hb20)
    have HL20 := Lib.hid (HL19.out.below hb20).1
    clear hb20 HW19 HL19 HR19
    go_wp2_with fail
    refine (len_ok b' bk' _ _ w20 HL20.out).mono ?_
    rintro e w' ⟨rfl, rfl⟩
    rw [show (L ++ [lateA]).length = N + 1 by rw [List.length_append, HN.out]; rfl]
    go_wp2_with fail
    refine (works_ok _ (HE.out.below HW20.out.bel)).mono ?_
    rintro e w21 ⟨rfl, hb21⟩
    have HB21 := Lib.hid (bel2 HW20.out.bel hb21)
    clear hb21
    go_wp2
    go_ret
    exact ⟨rfl, HB21.out⟩
set_option maxRecDepth 100000 in
set_option maxHeartbeats 8000000 in
theorem lSta_5 (a : Option Addr) (n c : Nat) (l : List Ent) (x : Nat) (hx : x ≤ 255) (hq : (x : Int) % 7 = 5) (w : World) (hl : RdE w (.slice a n c) l) (he : EnvL w) :
    Calls Tryz.prog 11 #[.slice a n c, .int .u8 x] w fun e w' => e = .returned (.bool true) ∧ Below w.heap.size w w' := by
  have HE := Lib.hid he
  have HL := Lib.hid hl
  have HRG : Hid (∀ x ∈ l, x.Rg) := by obtain ⟨_, _, _, _, _, h, _⟩ := hl; exact h
  have HST : Hid (Steady (entL 0 (l.take 100))) := entL_steady _ (fun x hx => HRG.out x (List.mem_of_mem_take hx)) 0 (by rw [List.length_take]; omega) (by rw [List.length_take]; omega)
  have HLN : Hid ((entL 0 (l.take 100)).length ≤ 100) := by rw [Hid, entL_length, List.length_take]; omega
  clear he hl HRG
  have HA : Hid (∀ W, RdE W (.slice a n c) l → Calls Tryz.prog 39 #[.slice a n c] W (NewA (entL 0 (l.take 100)) W)) := fun W h => atts_ok a n c l W h
  generalize entL 0 (l.take 100) = L at *
  obtain ⟨N, hN⟩ : ∃ N, L.length = N := ⟨_, rfl⟩
  have HN := Lib.hid hN
  have hN100 : N ≤ 100 := by have := HLN.out; omega
  clear hN
  go_enter Tryz.func11, Tryz.ntmps11
  go_wp2_with fail
  refine (HA.out _ HL.out).mono ?_
  rintro e w1 ⟨v, rfl, ho, hb1⟩
  obtain ⟨p, c1, rfl⟩ : ∃ p c1, v = .slice p N c1 := by have := rd_slice (RdA.of_own ho); rw [HN.out] at this; exact this
  have HB1 := Lib.hid hb1
  have HO1 := Lib.hid ho
  clear ho hb1 HL HA
  go_wp2_with fail
  refine (filled_ok p _ c1 L w1 (RdA.of_own HO1.out) (own_lt HO1.out) HST.out (HE.out.below HB1.out)).mono ?_
  rintro e w2 ⟨b, bk, rfl, hl2, hf2, hb2⟩
  have HW2 : Hid (StW w w2 b bk w1.heap.size p N c1 L) := ⟨hl2, own_below HO1.out hb2, hf2, bel2 HB1.out hb2, HB1.out.size⟩
  clear hl2 hf2 hb2 HB1 HO1
  go_wp2_with fail
  refine (file_ok _).mono ?_
  rintro e w3 ⟨rfl, hb3⟩
  have HW3 := Lib.hid (HW2.out.below hb3)
  have HFT : Hid (∀ g, Foot w3 bk g → g < w3.heap.size) := fun g hg => (HW3.out.led.foot_le hg).2
  clear hb3 HW2
  unfold okey
  go_wp2_with fail
  have hB4 := bel_new w3 (.cells #[.int .i64 1099511627776, .int .i64 1, .int .i64 3, .int .u32 1, .int .i64 1, .int .i64 1] 32)
  have hx4 : Bk (w3.alloc (.cells #[.int .i64 1099511627776, .int .i64 1, .int .i64 3, .int .u32 1, .int .i64 1, .int .i64 1] 32)) w3.heap.size 32 #[.int .i64 1099511627776, .int .i64 1, .int .i64 3, .int .u32 1, .int .i64 1, .int .i64 1] := Bk.new w3 _ _
  have HBB : Hid (b ≠ w3.heap.size) := fun e => absurd HW3.out.led.hb.lt (by omega)
  have HPP : Hid (∀ g, p = some ⟨g, 0, none⟩ → g ≠ w3.heap.size) := fun g e => by
    have := own_lt HW3.out.row g 0 N c1 (by rw [e])
    omega
  have HZ : Hid (w.heap.size ≤ w3.heap.size) := HW3.out.bel.size
  refine (pick_ok x hx _).mono ?_
  rintro e w4 ⟨⟨m, rfl, hm⟩, hb4⟩
  have HM := Lib.hid hm
  have hx4' := hx4.below hb4
  have HW4 := Lib.hid (HW3.out.below (bel2 hB4 hb4))
  have HF4 : Hid (∀ g, Foot w4 bk g → g < w3.heap.size) := fun g hg => HFT.out g (((HW3.out.led.below (bel2 hB4 hb4)).2 g).1 hg)
  have HX4 := Lib.hid hx4'
  have dz := hx4'.cell 5
  have df := hx4'.frozen 5
  clear hm hx4' hx4 hb4 hB4 HW3 HFT
  go_wp2
  have hkp : Kept (fun g => g = w3.heap.size) w4 (w4.setCell ⟨w3.heap.size, 5, none⟩ (.int .i64 m)) := Kept.put (S := fun g => g = w3.heap.size) (Kept.refl _ _) (p := ⟨w3.heap.size, 5, none⟩) (.inr rfl) _
  have HX5 : Hid (Bk (w4.setCell ⟨w3.heap.size, 5, none⟩ (.int .i64 m)) w3.heap.size 32 (⟨1099511627776, 1, 3, 1, 1, m⟩ : Att).cl.toArray) := HX4.out.put 5 _
  have HW5 : Hid (StW w (w4.setCell ⟨w3.heap.size, 5, none⟩ (.int .i64 m)) b bk w1.heap.size p N c1 L) := HW4.out.turn hkp HZ.out HBB.out HF4.out HPP.out
  have HF5 : Hid (∀ g, Foot (w4.setCell ⟨w3.heap.size, 5, none⟩ (.int .i64 m)) bk g → g < w3.heap.size) := fun g hg => HF4.out g (((HW4.out.led.kept hkp HBB.out (fun g hg e => absurd (HF4.out g hg) (by omega))).2 g).1 hg)
  clear HX4 HW4 HF4 dz df hkp HBB HPP HZ
  generalize w4.setCell ⟨w3.heap.size, 5, none⟩ (.int .i64 m) = w5 at *
  have HNO : Hid (¬ (⟨1099511627776, 1, 3, 1, 1, m⟩ : Att).Ok) := fun k => by
    have h0 := k.n0
    have h1 := k.n1
    simp only at h0 h1
    rcases HM.out with h | h | h <;> omega
  have HRGB : Hid (⟨1099511627776, 1, 3, 1, 1, m⟩ : Att).Rg := by
    have hm : -9223372036854775808 ≤ m ∧ m ≤ 9223372036854775807 := by rcases HM.out with h | h | h <;> omega
    constructor <;> simp only <;> omega
  obtain ⟨B, hB⟩ : ∃ B, (⟨1099511627776, 1, 3, 1, 1, m⟩ : Att) = B := ⟨_, rfl⟩
  rw [hB] at HNO HRGB HX5
  have HPB : Hid (∀ W q m k, RdA W (.slice q m k) (L ++ [B]) → EnvL W → Calls Tryz.prog 35 #[.slice q m k] W (TextV [] 2 W)) := fun W q m k hr he =>
    lprint_bad q m k _ W hr (fun y hy => by
      rcases List.mem_append.1 hy with hy | hy
      · exact (HW5.out.led.ok y hy).rg
      · obtain rfl := List.mem_singleton.1 hy
        exact HRGB.out) (fun h => HNO.out (h B (by simp))) he
  have HBC : Hid (B.cl.toArray = #[.int .i64 1099511627776, .int .i64 1, .int .i64 3, .int .u32 1, .int .i64 1, .int .i64 m]) := by rw [Hid, ← hB]; rfl
  have HBV : Hid (.agg #[.int .i64 1099511627776, .int .i64 1, .int .i64 3, .int .u32 1, .int .i64 1, .int .i64 m] = B.val) := by rw [Hid, ← hB]; rfl
  have HAE : Hid (addE L B = 2) := addE_arg HNO.out
  clear hB
  have HS : Hid (∀ W, Below w5.heap.size w5 W → (W.cell? ⟨w3.heap.size, 0, none⟩ = some (.int .i64 1099511627776) ∧ W.cell? ⟨w3.heap.size, 1, none⟩ = some (.int .i64 1) ∧ W.cell? ⟨w3.heap.size, 2, none⟩ = some (.int .i64 3) ∧ W.cell? ⟨w3.heap.size, 3, none⟩ = some (.int .u32 1) ∧ W.cell? ⟨w3.heap.size, 4, none⟩ = some (.int .i64 1) ∧ W.cell? ⟨w3.heap.size, 5, none⟩ = some (.int .i64 m))) := fun W hW => by
    have h2 := HX5.out.below hW
    rw [HBC.out] at h2
    exact ⟨h2.cell 0, h2.cell 1, h2.cell 2, h2.cell 3, h2.cell 4, h2.cell 5⟩
  have HGE0 : Hid (∀ (wa : World) pa ca k, wa.ownsRow w5.drew.heap.size 32 6 (.slice pa N ca) L.length (cls L) → pa = some ⟨k, 0, none⟩ → w5.heap.size ≤ k) := fun wa pa ca k h e => (h.lt k (by rw [e]; rfl)).1
  have HGE1 : Hid (∀ (wa : World) pa ca k, wa.ownsRow (w5.alloc (.cells #[.int .i64 1099511627776, .int .i64 1, .int .i64 3, .int .u32 1, .int .i64 1, .int .i64 m] 32)).drew.heap.size 32 6 (.slice pa N ca) L.length (cls L) → pa = some ⟨k, 0, none⟩ → w5.heap.size ≤ k) := fun wa pa ca k h e => Nat.le_trans (bel_new w5 (.cells #[.int .i64 1099511627776, .int .i64 1, .int .i64 3, .int .u32 1, .int .i64 1, .int .i64 m] 32)).size (h.lt k (by rw [e]; rfl)).1
  have HD0 : Hid (Below w5.heap.size w5 w5.drew) := bel_drew (Below.refl _ _)
  have HD1 : Hid (Below w5.heap.size w5 (w5.alloc (.cells #[.int .i64 1099511627776, .int .i64 1, .int .i64 3, .int .u32 1, .int .i64 1, .int .i64 m] 32)).drew) := bel_drew (bel_new _ _)
  have HX51 : Hid (Bk (w5.alloc (.cells #[.int .i64 1099511627776, .int .i64 1, .int .i64 3, .int .u32 1, .int .i64 1, .int .i64 m] 32)).drew w5.heap.size 32 B.cl.toArray) := by rw [Hid, HBC.out]; exact Bk.new w5 _ _
  have hz0 := HS.out _ HD0.out
  go_region_held3 (fun W => W.cell? ⟨w3.heap.size, 0, none⟩ = some (.int .i64 1099511627776) ∧ W.cell? ⟨w3.heap.size, 1, none⟩ = some (.int .i64 1) ∧ W.cell? ⟨w3.heap.size, 2, none⟩ = some (.int .i64 3) ∧ W.cell? ⟨w3.heap.size, 3, none⟩ = some (.int .u32 1) ∧ W.cell? ⟨w3.heap.size, 4, none⟩ = some (.int .i64 1) ∧ W.cell? ⟨w3.heap.size, 5, none⟩ = some (.int .i64 m)) (first | (with_reducible exact hza) | (with_reducible exact hzq) | (with_reducible exact hzr) | (with_reducible exact HS.out _ HD1.out) | (with_reducible exact HS.out _ (bel2 HDa.out (bel_new _ _))) | exact hz0)
    (first
    | (go_at_call 34; (with_reducible refine at_w w5.drew ?_); refine (clone_ok p N c1 L w5.drew (HW5.out.far.rd.below HD0.out) (Nat.le_trans HLN.out (by decide))).mono ?_; rintro e wa ⟨va, rfl, hoa, hba⟩; obtain ⟨pa, ca, rfl⟩ : ∃ pa ca, va = .slice pa N ca := (by have h := rd_slice (RdA.of_own hoa); rw [HN.out] at h; exact h); have HDa := Lib.hid (bel2 HD0.out hba); have HRa := Lib.hid hoa; have hza := HS.out _ HDa.out; clear hoa hba hz0)
    | (go_at_call 34; (with_reducible refine at_w (w5.alloc (.cells #[.int .i64 1099511627776, .int .i64 1, .int .i64 3, .int .u32 1, .int .i64 1, .int .i64 m] 32)).drew ?_); refine (clone_ok p N c1 L (w5.alloc (.cells #[.int .i64 1099511627776, .int .i64 1, .int .i64 3, .int .u32 1, .int .i64 1, .int .i64 m] 32)).drew (HW5.out.far.rd.below HD1.out) (Nat.le_trans HLN.out (by decide))).mono ?_; rintro e wa ⟨va, rfl, hoa, hba⟩; obtain ⟨pa, ca, rfl⟩ : ∃ pa ca, va = .slice pa N ca := (by have h := rd_slice (RdA.of_own hoa); rw [HN.out] at h; exact h); have HXa := Lib.hid (HX51.out.below hba); have HXA := Lib.hid hba.size; have HDa := Lib.hid (bel2 HD1.out hba); have HRa := Lib.hid hoa; have hza := HS.out _ HDa.out; clear hoa hba hz0)
    | (go_at_call 35; refine (HPB.out _ _ _ _ HRq.out (HE.out.below (bel2 HW5.out.bel HDq.out))).mono ?_; rintro e wr ⟨rfl, hbr⟩; have HDr := Lib.hid (bel2 HDq.out hbr); have hzr := HS.out _ HDr.out; clear hbr hzq)
    | ((with_reducible refine at_app wa ?_); obtain ⟨p8, c8, w8, hr8, ho8, hk8⟩ := app_one (x := w5.heap.size) (B := B) HN.out HRa.out HXa.out (Nat.le_trans HLN.out (by decide)) HXA.out; refine step_append_w (by first | rfl | kernel_rfl | go_simp) (some 52) (by rfl) _ _ _ _ (by rfl) _ _ (by rfl) (by rfl) _ _ hr8 ?_; have HDq := Lib.hid (HDa.out.trans (hk8.below HDa.out.size (fun k hk => HGE1.out wa pa ca k HRa.out hk))); have HRq := Lib.hid (RdA.of_own ho8); have hzq := HS.out _ HDq.out; clear hr8 ho8 hk8)
    | ((with_reducible refine at_app (wa.alloc (.cells #[.int .i64 1099511627776, .int .i64 1, .int .i64 3, .int .u32 1, .int .i64 1, .int .i64 m] 32)) ?_); obtain ⟨p8, c8, w8, hr8, ho8, hk8⟩ := app_one (x := wa.heap.size) (B := B) HN.out (own_below HRa.out (bel_new wa (.cells #[.int .i64 1099511627776, .int .i64 1, .int .i64 3, .int .u32 1, .int .i64 1, .int .i64 m] 32))) (by rw [HBC.out]; exact Bk.new wa _ _) (Nat.le_trans HLN.out (by decide)) (Nat.le_trans HDa.out.size (bel_new wa (.cells #[.int .i64 1099511627776, .int .i64 1, .int .i64 3, .int .u32 1, .int .i64 1, .int .i64 m] 32)).size); refine step_append_w (by first | rfl | kernel_rfl | go_simp) (some 52) (by rfl) _ _ _ _ (by rfl) _ _ (by rfl) (by rfl) _ _ hr8 ?_; have HDq := Lib.hid ((bel2 HDa.out (bel_new wa (.cells #[.int .i64 1099511627776, .int .i64 1, .int .i64 3, .int .u32 1, .int .i64 1, .int .i64 m] 32))).trans (hk8.below (bel2 HDa.out (bel_new wa (.cells #[.int .i64 1099511627776, .int .i64 1, .int .i64 3, .int .u32 1, .int .i64 1, .int .i64 m] 32))).size (fun k hk => HGE0.out wa pa ca k HRa.out hk))); have HRq := Lib.hid (RdA.of_own ho8); have hzq := HS.out _ HDq.out; clear hr8 ho8 hk8))
  all_goals
    clear hzr
    have HWr := Lib.hid (HW5.out.below HDr.out)
    have HXr := Lib.hid (HX5.out.below HDr.out)
    have HNFr : Hid (¬ Foot wr bk w3.heap.size) := fun hg => absurd (HF5.out _ (((HW5.out.led.below HDr.out).2 _).1 hg)) (Nat.lt_irrefl _)
    clear HW5 HX5 HF5 HD0 HD1 HX51 HDr HS HPB HGE0 HGE1
    have hh := HXr.out
    rw [HBC.out] at hh
    have d0 := hh.cell 0
    have d1 := hh.cell 1
    have d2 := hh.cell 2
    have d3 := hh.cell 3
    have d4 := hh.cell 4
    have d5 := hh.cell 5
    clear hh
    go_wp2_with fail
    rw [HBV.out]
    refine (add_ok b bk _ L B wr HWr.out.led HRGB.out (HE.out.below HWr.out.bel)).mono ?_
    rintro e w9 ⟨rfl, hl9, hk9, hf9⟩
    rw [addL_no (by rw [HAE.out]; decide)] at hl9
    rw [HAE.out]
    have HW9 := Lib.hid (HWr.out.add hl9 hk9 hf9)
    have HX9 : Hid (Bk w9 w3.heap.size 32 B.cl.toArray) := HXr.out.kept hk9 HNFr.out
    clear d0 d1 d2 d3 d4 d5 hl9 hk9 hf9 HWr HXr HNFr
    have hh := HX9.out
    rw [HBC.out] at hh
    have d0 := hh.cell 0
    have d1 := hh.cell 1
    have d2 := hh.cell 2
    have d3 := hh.cell 3
    have d4 := hh.cell 4
    have d5 := hh.cell 5
    clear hh
    go_wp2_with fail
    rw [HBV.out]
    refine (chk_att B HRGB.out w9 (HE.out.below HW9.out.bel)).mono ?_
    rintro e w10 ⟨rfl, hb10⟩
    rw [chkE_bad HNO.out]
    have HW10 := Lib.hid (HW9.out.below hb10)
    clear d0 d1 d2 d3 d4 d5 hb10 HW9 HX9
    go_wp2_with fail
    refine (all_ok b bk _ L w10 HW10.out.led).mono ?_
    rintro e w11 ⟨v, rfl, ho, hb11⟩
    obtain ⟨pa, ca, rfl⟩ : ∃ pa ca, v = .slice pa N ca := by have := rd_slice (RdA.of_own ho); rw [HN.out] at this; exact this
    obtain ⟨w12, hclr, hb12⟩ := run_clear_own ho 0
    have HW12 := Lib.hid (HW10.out.below (hb11.trans hb12))
    clear ho hb11 hb12 HW10
    go_wp2_with fail
    refine (file_ok _).mono ?_
    rintro e w13 ⟨rfl, hb13⟩
    have HW13 := Lib.hid (HW12.out.below hb13)
    clear hb13 HW12 hclr
    go_wp2_with fail
    refine (ofs_ok b bk _ L 1 3 1 rgo1 w13 HW13.out.led).mono ?_
    rintro e w14 ⟨v, rfl, ho, hb14⟩
    obtain ⟨pb, nb, cb, rfl⟩ : ∃ pb nb cb, v = .slice pb nb cb := by obtain ⟨q, k, h⟩ := rd_slice (RdA.of_own ho); exact ⟨_, _, _, h⟩
    obtain ⟨w15, hclr, hb15⟩ := run_clear_own ho 0
    have HW15 := Lib.hid (HW13.out.below (hb14.trans hb15))
    clear ho hb14 hb15 HW13
    go_wp2_with fail
    refine (copy_ok b bk _ L w15 HW15.out.led).mono ?_
    rintro e w16 ⟨b', bk', rfl, hge, hl16, hb16⟩
    have HL16 := Lib.hid hl16
    have HD16 := Lib.hid hb16
    clear hclr hge hl16 hb16
    go_wp2_with fail
    refine (lease_ok _).mono ?_
    rintro e w17 ⟨rfl, hb17⟩
    have HL17 := Lib.hid (HL16.out.below hb17).1
    have HD17 := Lib.hid (bel2 HD16.out hb17)
    clear hb17 HL16 HD16
    unfold okey
    go_wp2_with fail
    refine (late_ok b' bk' _ L w17 HL17.out (by have := HLN.out; omega) (HE.out.below (HW15.out.below HD17.out).bel)).mono ?_
    rintro e w18 ⟨rfl, hl18, hk18⟩
    have HW18 := Lib.hid (HW15.out.below (HD17.out.trans (hk18.below HD17.out.size (fun g hg => (HL17.out.foot_le hg).1))))
    have HL18 := Lib.hid hl18
    clear hl18 hk18 HW15 HL17 HD17
    go_wp2_with fail
    refine (all_ok b bk _ L w18 HW18.out.led).mono ?_
    rintro e w19 ⟨v, rfl, ho, hb19⟩
    obtain ⟨pd, cd, rfl⟩ : ∃ pd cd, v = .slice pd N cd := by have := rd_slice (RdA.of_own ho); rw [HN.out] at this; exact this
    have HW19 := Lib.hid (HW18.out.below hb19)
    have HL19 := Lib.hid (HL18.out.below hb19).1
    have HR19 := Lib.hid (RdA.of_own ho)
    clear ho hb19 HW18 HL18
    go_wp2_with fail
    refine (equal_yes _ _ _ _ _ _ L _ HR19.out HW19.out.far.rd).mono ?_
    rintro e w20 ⟨rfl, hb20⟩
    have HW20 := Lib.hid (HW19.out.below hb20)
    have HL20 := Lib.hid (HL19.out.below hb20).1
    clear hb20 HW19 HL19 HR19
    go_wp2_with fail
    refine (len_ok b' bk' _ _ w20 HL20.out).mono ?_
    rintro e w' ⟨rfl, rfl⟩
    rw [show (L ++ [lateA]).length = N + 1 by rw [List.length_append, HN.out]; rfl]
    go_wp2_with fail
    refine (works_ok _ (HE.out.below HW20.out.bel)).mono ?_
    rintro e w21 ⟨rfl, hb21⟩
    have HB21 := Lib.hid (bel2 HW20.out.bel hb21)
    clear hb21
    go_wp2
    go_ret
    exact ⟨rfl, HB21.out⟩
set_option maxRecDepth 100000 in
set_option maxHeartbeats 8000000 in
theorem lSta_6 (a : Option Addr) (n c : Nat) (l : List Ent) (x : Nat) (hx : x ≤ 255) (hq : (x : Int) % 7 = 6) (w : World) (hl : RdE w (.slice a n c) l) (he : EnvL w) :
    Calls Tryz.prog 11 #[.slice a n c, .int .u8 x] w fun e w' => e = .returned (.bool true) ∧ Below w.heap.size w w' := by
  have HE := Lib.hid he
  have HL := Lib.hid hl
  have HRG : Hid (∀ x ∈ l, x.Rg) := by obtain ⟨_, _, _, _, _, h, _⟩ := hl; exact h
  have HST : Hid (Steady (entL 0 (l.take 100))) := entL_steady _ (fun x hx => HRG.out x (List.mem_of_mem_take hx)) 0 (by rw [List.length_take]; omega) (by rw [List.length_take]; omega)
  have HLN : Hid ((entL 0 (l.take 100)).length ≤ 100) := by rw [Hid, entL_length, List.length_take]; omega
  clear he hl HRG
  have HA : Hid (∀ W, RdE W (.slice a n c) l → Calls Tryz.prog 39 #[.slice a n c] W (NewA (entL 0 (l.take 100)) W)) := fun W h => atts_ok a n c l W h
  generalize entL 0 (l.take 100) = L at *
  obtain ⟨N, hN⟩ : ∃ N, L.length = N := ⟨_, rfl⟩
  have HN := Lib.hid hN
  have hN100 : N ≤ 100 := by have := HLN.out; omega
  clear hN
  go_enter Tryz.func11, Tryz.ntmps11
  go_wp2_with fail
  refine (HA.out _ HL.out).mono ?_
  rintro e w1 ⟨v, rfl, ho, hb1⟩
  obtain ⟨p, c1, rfl⟩ : ∃ p c1, v = .slice p N c1 := by have := rd_slice (RdA.of_own ho); rw [HN.out] at this; exact this
  have HB1 := Lib.hid hb1
  have HO1 := Lib.hid ho
  clear ho hb1 HL HA
  go_wp2_with fail
  refine (filled_ok p _ c1 L w1 (RdA.of_own HO1.out) (own_lt HO1.out) HST.out (HE.out.below HB1.out)).mono ?_
  rintro e w2 ⟨b, bk, rfl, hl2, hf2, hb2⟩
  have HW2 : Hid (StW w w2 b bk w1.heap.size p N c1 L) := ⟨hl2, own_below HO1.out hb2, hf2, bel2 HB1.out hb2, HB1.out.size⟩
  clear hl2 hf2 hb2 HB1 HO1
  go_wp2_with fail
  refine (file_ok _).mono ?_
  rintro e w3 ⟨rfl, hb3⟩
  have HW3 := Lib.hid (HW2.out.below hb3)
  have HFT : Hid (∀ g, Foot w3 bk g → g < w3.heap.size) := fun g hg => (HW3.out.led.foot_le hg).2
  clear hb3 HW2
  unfold okey
  go_wp2
  have hB5 := bel_new w3 (.cells #[.int .i64 1099511627776, .int .i64 1, .int .i64 64, .int .u32 1, .int .i64 1, .int .i64 1] 32)
  have HX5 : Hid (Bk (w3.alloc (.cells #[.int .i64 1099511627776, .int .i64 1, .int .i64 64, .int .u32 1, .int .i64 1, .int .i64 1] 32)) w3.heap.size 32 (⟨1099511627776, 1, 64, 1, 1, 1⟩ : Att).cl.toArray) := Bk.new w3 _ _
  have HW5 := Lib.hid (HW3.out.below hB5)
  have HF5 : Hid (∀ g, Foot (w3.alloc (.cells #[.int .i64 1099511627776, .int .i64 1, .int .i64 64, .int .u32 1, .int .i64 1, .int .i64 1] 32)) bk g → g < w3.heap.size) := fun g hg => HFT.out g (((HW3.out.led.below hB5).2 g).1 hg)
  clear hB5 HW3 HFT
  generalize w3.alloc (.cells #[.int .i64 1099511627776, .int .i64 1, .int .i64 64, .int .u32 1, .int .i64 1, .int .i64 1] 32) = w5 at *
  have HNO : Hid (¬ (⟨1099511627776, 1, 64, 1, 1, 1⟩ : Att).Ok) := fun k => absurd k.i1 (by decide)
  have HRGB : Hid (⟨1099511627776, 1, 64, 1, 1, 1⟩ : Att).Rg := by constructor <;> decide
  obtain ⟨B, hB⟩ : ∃ B, (⟨1099511627776, 1, 64, 1, 1, 1⟩ : Att) = B := ⟨_, rfl⟩
  rw [hB] at HNO HRGB HX5
  have HPB : Hid (∀ W q m k, RdA W (.slice q m k) (L ++ [B]) → EnvL W → Calls Tryz.prog 35 #[.slice q m k] W (TextV [] 2 W)) := fun W q m k hr he =>
    lprint_bad q m k _ W hr (fun y hy => by
      rcases List.mem_append.1 hy with hy | hy
      · exact (HW5.out.led.ok y hy).rg
      · obtain rfl := List.mem_singleton.1 hy
        exact HRGB.out) (fun h => HNO.out (h B (by simp))) he
  have HBC : Hid (B.cl.toArray = #[.int .i64 1099511627776, .int .i64 1, .int .i64 64, .int .u32 1, .int .i64 1, .int .i64 1]) := by rw [Hid, ← hB]; rfl
  have HBV : Hid (.agg #[.int .i64 1099511627776, .int .i64 1, .int .i64 64, .int .u32 1, .int .i64 1, .int .i64 1] = B.val) := by rw [Hid, ← hB]; rfl
  have HAE : Hid (addE L B = 2) := addE_arg HNO.out
  clear hB
  have HS : Hid (∀ W, Below w5.heap.size w5 W → (W.cell? ⟨w3.heap.size, 0, none⟩ = some (.int .i64 1099511627776) ∧ W.cell? ⟨w3.heap.size, 1, none⟩ = some (.int .i64 1) ∧ W.cell? ⟨w3.heap.size, 2, none⟩ = some (.int .i64 64) ∧ W.cell? ⟨w3.heap.size, 3, none⟩ = some (.int .u32 1) ∧ W.cell? ⟨w3.heap.size, 4, none⟩ = some (.int .i64 1) ∧ W.cell? ⟨w3.heap.size, 5, none⟩ = some (.int .i64 1))) := fun W hW => by
    have h2 := HX5.out.below hW
    rw [HBC.out] at h2
    exact ⟨h2.cell 0, h2.cell 1, h2.cell 2, h2.cell 3, h2.cell 4, h2.cell 5⟩
  have HGE0 : Hid (∀ (wa : World) pa ca k, wa.ownsRow w5.drew.heap.size 32 6 (.slice pa N ca) L.length (cls L) → pa = some ⟨k, 0, none⟩ → w5.heap.size ≤ k) := fun wa pa ca k h e => (h.lt k (by rw [e]; rfl)).1
  have HGE1 : Hid (∀ (wa : World) pa ca k, wa.ownsRow (w5.alloc (.cells #[.int .i64 1099511627776, .int .i64 1, .int .i64 64, .int .u32 1, .int .i64 1, .int .i64 1] 32)).drew.heap.size 32 6 (.slice pa N ca) L.length (cls L) → pa = some ⟨k, 0, none⟩ → w5.heap.size ≤ k) := fun wa pa ca k h e => Nat.le_trans (bel_new w5 (.cells #[.int .i64 1099511627776, .int .i64 1, .int .i64 64, .int .u32 1, .int .i64 1, .int .i64 1] 32)).size (h.lt k (by rw [e]; rfl)).1
  have HD0 : Hid (Below w5.heap.size w5 w5.drew) := bel_drew (Below.refl _ _)
  have HD1 : Hid (Below w5.heap.size w5 (w5.alloc (.cells #[.int .i64 1099511627776, .int .i64 1, .int .i64 64, .int .u32 1, .int .i64 1, .int .i64 1] 32)).drew) := bel_drew (bel_new _ _)
  have HX51 : Hid (Bk (w5.alloc (.cells #[.int .i64 1099511627776, .int .i64 1, .int .i64 64, .int .u32 1, .int .i64 1, .int .i64 1] 32)).drew w5.heap.size 32 B.cl.toArray) := by rw [Hid, HBC.out]; exact Bk.new w5 _ _
  have hz0 := HS.out _ HD0.out
  go_region_held3 (fun W => W.cell? ⟨w3.heap.size, 0, none⟩ = some (.int .i64 1099511627776) ∧ W.cell? ⟨w3.heap.size, 1, none⟩ = some (.int .i64 1) ∧ W.cell? ⟨w3.heap.size, 2, none⟩ = some (.int .i64 64) ∧ W.cell? ⟨w3.heap.size, 3, none⟩ = some (.int .u32 1) ∧ W.cell? ⟨w3.heap.size, 4, none⟩ = some (.int .i64 1) ∧ W.cell? ⟨w3.heap.size, 5, none⟩ = some (.int .i64 1)) (first | (with_reducible exact hza) | (with_reducible exact hzq) | (with_reducible exact hzr) | (with_reducible exact HS.out _ HD1.out) | (with_reducible exact HS.out _ (bel2 HDa.out (bel_new _ _))) | exact hz0)
    (first
    | (go_at_call 34; (with_reducible refine at_w w5.drew ?_); refine (clone_ok p N c1 L w5.drew (HW5.out.far.rd.below HD0.out) (Nat.le_trans HLN.out (by decide))).mono ?_; rintro e wa ⟨va, rfl, hoa, hba⟩; obtain ⟨pa, ca, rfl⟩ : ∃ pa ca, va = .slice pa N ca := (by have h := rd_slice (RdA.of_own hoa); rw [HN.out] at h; exact h); have HDa := Lib.hid (bel2 HD0.out hba); have HRa := Lib.hid hoa; have hza := HS.out _ HDa.out; clear hoa hba hz0)
    | (go_at_call 34; (with_reducible refine at_w (w5.alloc (.cells #[.int .i64 1099511627776, .int .i64 1, .int .i64 64, .int .u32 1, .int .i64 1, .int .i64 1] 32)).drew ?_); refine (clone_ok p N c1 L (w5.alloc (.cells #[.int .i64 1099511627776, .int .i64 1, .int .i64 64, .int .u32 1, .int .i64 1, .int .i64 1] 32)).drew (HW5.out.far.rd.below HD1.out) (Nat.le_trans HLN.out (by decide))).mono ?_; rintro e wa ⟨va, rfl, hoa, hba⟩; obtain ⟨pa, ca, rfl⟩ : ∃ pa ca, va = .slice pa N ca := (by have h := rd_slice (RdA.of_own hoa); rw [HN.out] at h; exact h); have HXa := Lib.hid (HX51.out.below hba); have HXA := Lib.hid hba.size; have HDa := Lib.hid (bel2 HD1.out hba); have HRa := Lib.hid hoa; have hza := HS.out _ HDa.out; clear hoa hba hz0)
    | (go_at_call 35; refine (HPB.out _ _ _ _ HRq.out (HE.out.below (bel2 HW5.out.bel HDq.out))).mono ?_; rintro e wr ⟨rfl, hbr⟩; have HDr := Lib.hid (bel2 HDq.out hbr); have hzr := HS.out _ HDr.out; clear hbr hzq)
    | ((with_reducible refine at_app wa ?_); obtain ⟨p8, c8, w8, hr8, ho8, hk8⟩ := app_one (x := w5.heap.size) (B := B) HN.out HRa.out HXa.out (Nat.le_trans HLN.out (by decide)) HXA.out; refine step_append_w (by first | rfl | kernel_rfl | go_simp) (some 52) (by rfl) _ _ _ _ (by rfl) _ _ (by rfl) (by rfl) _ _ hr8 ?_; have HDq := Lib.hid (HDa.out.trans (hk8.below HDa.out.size (fun k hk => HGE1.out wa pa ca k HRa.out hk))); have HRq := Lib.hid (RdA.of_own ho8); have hzq := HS.out _ HDq.out; clear hr8 ho8 hk8)
    | ((with_reducible refine at_app (wa.alloc (.cells #[.int .i64 1099511627776, .int .i64 1, .int .i64 64, .int .u32 1, .int .i64 1, .int .i64 1] 32)) ?_); obtain ⟨p8, c8, w8, hr8, ho8, hk8⟩ := app_one (x := wa.heap.size) (B := B) HN.out (own_below HRa.out (bel_new wa (.cells #[.int .i64 1099511627776, .int .i64 1, .int .i64 64, .int .u32 1, .int .i64 1, .int .i64 1] 32))) (by rw [HBC.out]; exact Bk.new wa _ _) (Nat.le_trans HLN.out (by decide)) (Nat.le_trans HDa.out.size (bel_new wa (.cells #[.int .i64 1099511627776, .int .i64 1, .int .i64 64, .int .u32 1, .int .i64 1, .int .i64 1] 32)).size); refine step_append_w (by first | rfl | kernel_rfl | go_simp) (some 52) (by rfl) _ _ _ _ (by rfl) _ _ (by rfl) (by rfl) _ _ hr8 ?_; have HDq := Lib.hid ((bel2 HDa.out (bel_new wa (.cells #[.int .i64 1099511627776, .int .i64 1, .int .i64 64, .int .u32 1, .int .i64 1, .int .i64 1] 32))).trans (hk8.below (bel2 HDa.out (bel_new wa (.cells #[.int .i64 1099511627776, .int .i64 1, .int .i64 64, .int .u32 1, .int .i64 1, .int .i64 1] 32))).size (fun k hk => HGE0.out wa pa ca k HRa.out hk))); have HRq := Lib.hid (RdA.of_own ho8); have hzq := HS.out _ HDq.out; clear hr8 ho8 hk8))
  all_goals
    clear hzr
    have HWr := Lib.hid (HW5.out.below HDr.out)
    have HXr := Lib.hid (HX5.out.below HDr.out)
    have HNFr : Hid (¬ Foot wr bk w3.heap.size) := fun hg => absurd (HF5.out _ (((HW5.out.led.below HDr.out).2 _).1 hg)) (Nat.lt_irrefl _)
    clear HW5 HX5 HF5 HD0 HD1 HX51 HDr HS HPB HGE0 HGE1
    have hh := HXr.out
    rw [HBC.out] at hh
    have d0 := hh.cell 0
    have d1 := hh.cell 1
    have d2 := hh.cell 2
    have d3 := hh.cell 3
    have d4 := hh.cell 4
    have d5 := hh.cell 5
    clear hh
    go_wp2_with fail
    rw [HBV.out]
    refine (add_ok b bk _ L B wr HWr.out.led HRGB.out (HE.out.below HWr.out.bel)).mono ?_
    rintro e w9 ⟨rfl, hl9, hk9, hf9⟩
    rw [addL_no (by rw [HAE.out]; decide)] at hl9
    rw [HAE.out]
    have HW9 := Lib.hid (HWr.out.add hl9 hk9 hf9)
    have HX9 : Hid (Bk w9 w3.heap.size 32 B.cl.toArray) := HXr.out.kept hk9 HNFr.out
    clear d0 d1 d2 d3 d4 d5 hl9 hk9 hf9 HWr HXr HNFr
    have hh := HX9.out
    rw [HBC.out] at hh
    have d0 := hh.cell 0
    have d1 := hh.cell 1
    have d2 := hh.cell 2
    have d3 := hh.cell 3
    have d4 := hh.cell 4
    have d5 := hh.cell 5
    clear hh
    go_wp2_with fail
    rw [HBV.out]
    refine (chk_att B HRGB.out w9 (HE.out.below HW9.out.bel)).mono ?_
    rintro e w10 ⟨rfl, hb10⟩
    rw [chkE_bad HNO.out]
    have HW10 := Lib.hid (HW9.out.below hb10)
    clear d0 d1 d2 d3 d4 d5 hb10 HW9 HX9
    go_wp2_with fail
    refine (all_ok b bk _ L w10 HW10.out.led).mono ?_
    rintro e w11 ⟨v, rfl, ho, hb11⟩
    obtain ⟨pa, ca, rfl⟩ : ∃ pa ca, v = .slice pa N ca := by have := rd_slice (RdA.of_own ho); rw [HN.out] at this; exact this
    obtain ⟨w12, hclr, hb12⟩ := run_clear_own ho 0
    have HW12 := Lib.hid (HW10.out.below (hb11.trans hb12))
    clear ho hb11 hb12 HW10
    go_wp2_with fail
    refine (file_ok _).mono ?_
    rintro e w13 ⟨rfl, hb13⟩
    have HW13 := Lib.hid (HW12.out.below hb13)
    clear hb13 HW12 hclr
    go_wp2_with fail
    refine (ofs_ok b bk _ L 1 3 1 rgo1 w13 HW13.out.led).mono ?_
    rintro e w14 ⟨v, rfl, ho, hb14⟩
    obtain ⟨pb, nb, cb, rfl⟩ : ∃ pb nb cb, v = .slice pb nb cb := by obtain ⟨q, k, h⟩ := rd_slice (RdA.of_own ho); exact ⟨_, _, _, h⟩
    obtain ⟨w15, hclr, hb15⟩ := run_clear_own ho 0
    have HW15 := Lib.hid (HW13.out.below (hb14.trans hb15))
    clear ho hb14 hb15 HW13
    go_wp2_with fail
    refine (copy_ok b bk _ L w15 HW15.out.led).mono ?_
    rintro e w16 ⟨b', bk', rfl, hge, hl16, hb16⟩
    have HL16 := Lib.hid hl16
    have HD16 := Lib.hid hb16
    clear hclr hge hl16 hb16
    go_wp2_with fail
    refine (lease_ok _).mono ?_
    rintro e w17 ⟨rfl, hb17⟩
    have HL17 := Lib.hid (HL16.out.below hb17).1
    have HD17 := Lib.hid (bel2 HD16.out hb17)
    clear hb17 HL16 HD16
    unfold okey
    go_wp2_with fail
    refine (late_ok b' bk' _ L w17 HL17.out (by have := HLN.out; omega) (HE.out.below (HW15.out.below HD17.out).bel)).mono ?_
    rintro e w18 ⟨rfl, hl18, hk18⟩
    have HW18 := Lib.hid (HW15.out.below (HD17.out.trans (hk18.below HD17.out.size (fun g hg => (HL17.out.foot_le hg).1))))
    have HL18 := Lib.hid hl18
    clear hl18 hk18 HW15 HL17 HD17
    go_wp2_with fail
    refine (all_ok b bk _ L w18 HW18.out.led).mono ?_
    rintro e w19 ⟨v, rfl, ho, hb19⟩
    obtain ⟨pd, cd, rfl⟩ : ∃ pd cd, v = .slice pd N cd := by have := rd_slice (RdA.of_own ho); rw [HN.out] at this; exact this
    have HW19 := Lib.hid (HW18.out.below hb19)
    have HL19 := Lib.hid (HL18.out.below hb19).1
    have HR19 := Lib.hid (RdA.of_own ho)
    clear ho hb19 HW18 HL18
    go_wp2_with fail
    refine (equal_yes _ _ _ _ _ _ L _ HR19.out HW19.out.far.rd).mono ?_
    rintro e w20 ⟨rfl, hb20⟩
    have HW20 := Lib.hid (HW19.out.below hb20)
    have HL20 := Lib.hid (HL19.out.below hb20).1
    clear hb20 HW19 HL19 HR19
    go_wp2_with fail
    refine (len_ok b' bk' _ _ w20 HL20.out).mono ?_
    rintro e w' ⟨rfl, rfl⟩
    rw [show (L ++ [lateA]).length = N + 1 by rw [List.length_append, HN.out]; rfl]
    go_wp2_with fail
    refine (works_ok _ (HE.out.below HW20.out.bel)).mono ?_
    rintro e w21 ⟨rfl, hb21⟩
    have HB21 := Lib.hid (bel2 HW20.out.bel hb21)
    clear hb21
    go_wp2
    go_ret
    exact ⟨rfl, HB21.out⟩
theorem lSta_walk (a : Option Addr) (n c : Nat) (l : List Ent) (x : Int) (w : World) (hl : RdE w (.slice a n c) l) (h0 : 0 ≤ x) (h1 : x ≤ 255) (he : EnvL w) :
    Calls Tryz.prog 11 #[.slice a n c, .int .u8 x] w fun e w' => e = .returned (.bool true) ∧ Below w.heap.size w w' := by
  obtain ⟨x, rfl⟩ := Int.eq_ofNat_of_zero_le h0
  have hx : x ≤ 255 := by omega
  have h : (x : Int) % 7 = 0 ∨ (x : Int) % 7 = 1 ∨ (x : Int) % 7 = 2 ∨ (x : Int) % 7 = 3 ∨ (x : Int) % 7 = 4 ∨ (x : Int) % 7 = 5 ∨ (x : Int) % 7 = 6 := by omega
  rcases h with h | h | h | h | h | h | h
  · exact lSta_0 a n c l x hx h w hl he
  · exact lSta_1 a n c l x hx h w hl he
  · exact lSta_2 a n c l x hx h w hl he
  · exact lSta_3 a n c l x hx h w hl he
  · exact lSta_4 a n c l x hx h w hl he
  · exact lSta_5 a n c l x hx h w hl he
  · exact lSta_6 a n c l x hx h w hl he
end Go.Proofs.YtenggngcigkakaaGreatDoor
