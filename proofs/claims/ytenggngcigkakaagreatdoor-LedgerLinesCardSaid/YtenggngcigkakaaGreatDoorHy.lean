/- The chapter's examples hold (the helper works). -/
import Derived.Test.YtenggngcigkakaaGreatDoorHx
namespace Go.Proofs.YtenggngcigkakaaGreatDoor
open Go.RowKit

def exB : List UInt8 := [53, 32, 102, 51, 58, 49, 32, 99, 108, 111, 115, 101, 32, 108, 97, 116, 101, 114, 10, 57, 32, 102, 51, 58, 49, 32, 99, 108, 111, 115, 101, 32, 111, 107, 10, 57, 32, 108, 48, 58, 50, 32, 99, 111, 108, 108, 101, 99, 116, 32, 102, 97, 105, 108, 10]
theorem dig1 (u : Nat) (h : u < 10) : Lib.decDigits u = [(48 + u).toUInt8] := by rw [Lib.decDigits, dif_pos h]
theorem exLines : lines [ex1, ex2, ex3] = exB := by
  have e5 : Lib.decDigits 5 = [53] := dig1 5 (by decide)
  have e9 : Lib.decDigits 9 = [57] := dig1 9 (by decide)
  have e3 : Lib.decDigits 3 = [51] := dig1 3 (by decide)
  have e1 : Lib.decDigits 1 = [49] := dig1 1 (by decide)
  have e0 : Lib.decDigits 0 = [48] := dig1 0 (by decide)
  have e2 : Lib.decDigits 2 = [50] := dig1 2 (by decide)
  have t5 : (5 : Int).toNat = 5 := rfl
  have t9 : (9 : Int).toNat = 9 := rfl
  have t3 : (3 : Int).toNat = 3 := rfl
  have t2 : (2 : Int).toNat = 2 := rfl
  have t1 : (1 : Int).toNat = 1 := rfl
  have t0 : (0 : Int).toNat = 0 := rfl
  simp only [lines, aText, txt, ex1, ex2, ex3, t5, t9, t3, t2, t1, t0, e5, e9, e3, e1, e0, e2, List.flatMap_cons, List.flatMap_nil, exB]
  decide
theorem exState : addE [ex1, ex2, ex3] ex1 = 8 := addE_state ex1_ok ⟨ex3, rfl, by decide⟩
theorem exPrint (a : Option Addr) (n c : Nat) (w : World) (hr : RdA w (.slice a n c) [ex1, ex2, ex3]) (he : EnvL w) : Calls Tryz.prog 35 #[.slice a n c] w (TextV exB 0 w) := by
  have h := lprint_ok a n c _ w hr exX_ok he
  rw [exLines, if_pos (by decide), if_pos (by decide)] at h
  exact h
theorem exParse (w : World) (he : EnvL w) : Calls Tryz.prog 37 #[.string (bstr exB)] w fun e w' => ∃ p c, e = .returned (.tuple #[.slice p 3 c, .int .i64 0, .int .i64 0]) ∧ RdA w' (.slice p 3 c) [ex1, ex2, ex3] ∧ Below w.heap.size w w' := by
  refine (lparse_ok exB (by decide) w he).mono ?_
  rintro e w' ⟨ys, r, hP, hB, h⟩
  have hP2 : PRel exB [ex1, ex2, ex3] [] := by rw [← exLines]; exact prel_lines exX_ok
  obtain ⟨rfl, rfl⟩ := hP.uniq hP2
  rcases h with ⟨_, v, rfl, ho⟩ | ⟨h, _⟩
  · obtain ⟨p, c, rfl⟩ := own_slice ho
    exact ⟨p, c, rfl, RdA.of_own ho, hB⟩
  · exact absurd rfl h
theorem exOf1 : ofL [ex1, ex2, ex3] 1 3 1 = [ex1, ex2] := by decide
theorem exOf3 : ofL [ex1, ex2, ex3] 3 0 2 = [ex3] := by decide
theorem rgo1 : RgO 1 3 1 := by constructor <;> decide
theorem rgo3 : RgO 3 0 2 := by constructor <;> decide
theorem exEnd1 (b bk lo : Nat) (w : World) (h : LedW w b bk lo [ex1, ex2, ex3]) : Calls Tryz.prog 24 #[.pointer (some ⟨b, 0, none⟩), okey 1 3 1] w fun e w' => e = .returned (.tuple #[.int .i64 1, .bool true]) ∧ Below w.heap.size w w' := by
  have k := ended_ok b bk lo _ 1 3 1 rgo1 w h
  rw [exOf1] at k
  exact k
theorem exEnd3 (b bk lo : Nat) (w : World) (h : LedW w b bk lo [ex1, ex2, ex3]) : Calls Tryz.prog 24 #[.pointer (some ⟨b, 0, none⟩), okey 3 0 2] w fun e w' => e = .returned (.tuple #[.int .i64 3, .bool true]) ∧ Below w.heap.size w w' := by
  have k := ended_ok b bk lo _ 3 0 2 rgo3 w h
  rw [exOf3] at k
  exact k
theorem exFirst (b bk lo : Nat) (w : World) (h : LedW w b bk lo [ex1, ex2, ex3]) : Calls Tryz.prog 22 #[.pointer (some ⟨b, 0, none⟩), okey 1 3 1] w fun e w' => e = .returned (.tuple #[.agg #[.int .i64 5, .int .i64 1, .int .i64 3, .int .u32 1, .int .i64 1, .int .i64 2], .bool true]) ∧ Below w.heap.size w w' := by
  have k := first_ok b bk lo _ 1 3 1 rgo1 w h
  rw [exOf1] at k
  exact k
theorem exOf (b bk lo : Nat) (w : World) (h : LedW w b bk lo [ex1, ex2, ex3]) : Calls Tryz.prog 27 #[.pointer (some ⟨b, 0, none⟩), okey 1 3 1] w fun e w' => ∃ p c, e = .returned (.slice p 2 c) ∧ RdA w' (.slice p 2 c) [ex1, ex2] ∧ Below w.heap.size w w' := by
  have k := ofs_ok b bk lo _ 1 3 1 rgo1 w h
  rw [exOf1] at k
  refine k.mono ?_
  rintro e w' ⟨v, rfl, ho, hb⟩
  obtain ⟨p, c, rfl⟩ := own_slice ho
  exact ⟨p, c, rfl, RdA.of_own ho, hb⟩
theorem exLen (b bk lo : Nat) (w : World) (h : LedW w b bk lo [ex1, ex2, ex3]) : Calls Tryz.prog 29 #[.pointer (some ⟨b, 0, none⟩)] w fun e w' => e = .returned (.int .i64 3) ∧ w = w' := len_ok b bk lo _ w h
theorem exAdd (b bk lo : Nat) (w : World) (h : LedW w b bk lo [ex1, ex2, ex3]) (he : EnvL w) : Calls Tryz.prog 17 #[.pointer (some ⟨b, 0, none⟩), .agg #[.int .i64 5, .int .i64 1, .int .i64 3, .int .u32 1, .int .i64 1, .int .i64 2]] w fun e w' => e = .returned (.int .i64 8) ∧ LedW w' b bk lo [ex1, ex2, ex3] ∧ Kept (Foot w bk) w w' ∧ ∀ g, Foot w' bk g → Foot w bk g ∨ w.heap.size ≤ g := by
  have k := add_ok b bk lo _ ex1 w h ex1_ok.rg he
  unfold AddV at k
  rw [exState, addL_no (by rw [exState]; decide)] at k
  exact k
set_option maxRecDepth 100000 in
set_option maxHeartbeats 8000000 in
theorem works_ok (w : World) (he : EnvL w) : Calls Tryz.prog 13 #[] w fun e w' => e = .returned (.bool true) ∧ Below w.heap.size w w' := by
  have HE := Lib.hid he
  clear he
  go_enter Tryz.func13, Tryz.ntmps13
  go_wp2_with fail
  refine (new_ok _).mono ?_
  rintro e w1 ⟨rfl, hl1, hb1⟩
  have HL1 := Lib.hid hl1
  have HB1 := Lib.hid hb1
  clear hl1 hb1
  go_wp2_with fail
  refine (three_ok _).mono ?_
  rintro e w2 ⟨v, rfl, ho, hb2⟩
  obtain ⟨p, c, rfl⟩ := own_slice ho
  have HB2 := Lib.hid (bel2 HB1.out hb2)
  have HL2 := Lib.hid (HL1.out.below hb2).1
  have HF2 := Lib.hid (Far.of_own (bk := w.heap.size + 1) ho (fun g hg => (HL1.out.foot_le (((HL1.out.below hb2).2 g).1 hg)).2))
  clear ho hb2
  go_wp2
  go_loopw [20] (fun i wr => ∃ j : Nat, j ≤ 3 ∧ i = .int .i64 j ∧ Hid (LedW wr (w.heap.size + 2) (w.heap.size + 1) w.heap.size ([ex1, ex2, ex3].take j)) ∧ Hid (Far wr (w.heap.size + 1) (.slice p 3 c) [ex1, ex2, ex3]) ∧ Hid (Below w.heap.size w wr)) (fun i _ => 3 - (intOf i).toNat)
  case atStart => exact ⟨0, Nat.zero_le _, rfl, HL2, HF2, HB2⟩
  case round =>
    obtain ⟨j, hj, rfl, HL, HF, HB⟩ := hrel
    clear HL1 HB1 HB2 HL2 HF2
    by_cases hlt : j < 3
    · have hlt2 : j < [ex1, ex2, ex3].length := hlt
      obtain ⟨gl, off, rfl, hgl, hsix⟩ := HF.out.rd.cell hlt2
      have HXO := Lib.hid (exX_ok _ (List.getElem_mem hlt2))
      have HSN := Lib.hid (exX_steady.addL hlt2)
      have HSE := Lib.hid (exX_steady.add hlt2)
      generalize [ex1, ex2, ex3][j] = x at *
      obtain ⟨c0, c1, c2, c3, c4, c5⟩ := hsix
      have hW3 := bel_new wr (.cells #[.int .i64 x.t, .int .i64 x.k, .int .i64 x.i, .int .u32 x.g, .int .i64 x.y, .int .i64 x.n] 32)
      have hbx : Bk (wr.alloc (.cells #[.int .i64 x.t, .int .i64 x.k, .int .i64 x.i, .int .u32 x.g, .int .i64 x.y, .int .i64 x.n] 32)) wr.heap.size 32 x.cl.toArray := Bk.new wr _ _
      obtain ⟨d0, d1, d2, d3, d4, d5⟩ := six_new hbx
      simp only [Nat.zero_add] at d0 d1 d2 d3 d4 d5
      have HBW := Lib.hid (bel2 HB.out hW3)
      have HL3 := Lib.hid (HL.out.below hW3).1
      have HF3 := Lib.hid (HF.out.below HL.out hW3)
      clear hW3 hbx hlt2
      go_wp2_with fail
      generalize wr.alloc (.cells #[.int .i64 x.t, .int .i64 x.k, .int .i64 x.i, .int .u32 x.g, .int .i64 x.y, .int .i64 x.n] 32) = W3 at *
      clear c0 c1 c2 c3 c4 c5
      refine (add_ok _ _ _ _ x _ HL3.out HXO.out.rg (HE.out.below HBW.out)).mono ?_
      rintro e w4 ⟨rfl, hl4, hk4, hf4⟩
      have HF4 := Lib.hid (HF3.out.add hk4 hf4)
      have HB4 := Lib.hid (HBW.out.trans (hk4.below HBW.out.size (fun g hg => (HL3.out.foot_le hg).1)))
      rw [HSN.out] at hl4
      rw [HSE.out]
      have HL4 := Lib.hid hl4
      clear hl4 hk4 hf4 d0 d1 d2 d3 d4 d5
      go_wp2
      go_roundw
      case rel => exact ⟨j + 1, by omega, by go_num, HL4.out, HF4.out, HB4.out⟩
      case measure => simp [intOf]; omega
    · obtain rfl : j = 3 := by omega
      clear hlt
      have HL0 : Hid (LedW wr (w.heap.size + 2) (w.heap.size + 1) w.heap.size [ex1, ex2, ex3]) := HL.out
      clear HL
      obtain ⟨gl, off, rfl, hgl, c0, c1, c2, c3, c4, c5⟩ := HF.out.rd.cell (j := 0) (by decide)
      have e0 : [ex1, ex2, ex3][0] = ex1 := rfl
      rw [e0] at c0 c1 c2 c3 c4 c5
      simp only [Nat.zero_mul, Nat.add_zero, ex1] at c0 c1 c2 c3 c4 c5
      go_wp2_with fail
      refine (exAdd _ _ _ wr HL0.out (HE.out.below HB.out)).mono ?_
      rintro e w4 ⟨rfl, hl4, hk4, hf4⟩
      have HF4 := Lib.hid (HF.out.add hk4 hf4)
      have HB4 := Lib.hid (HB.out.trans (hk4.below HB.out.size (fun g hg => (HL0.out.foot_le hg).1)))
      have HL4 := Lib.hid hl4
      clear hl4 hk4 hf4 c0 c1 c2 c3 c4 c5 HL0 HF hgl
      go_wp2_with fail
      refine (exLen _ _ _ _ HL4.out).mono ?_
      rintro e w' ⟨rfl, rfl⟩
      go_wp2_with fail
      refine (file_ok _).mono ?_
      rintro e w5 ⟨rfl, hb5⟩
      have HL5 := Lib.hid (HL4.out.below hb5).1
      have HF5 := Lib.hid (HF4.out.below HL4.out hb5)
      have HB5 := Lib.hid (bel2 HB4.out hb5)
      clear hb5 HF4
      clear HL4
      go_wp2_with fail
      refine (exEnd1 _ _ _ _ HL5.out).mono ?_
      rintro e w6 ⟨rfl, hb6⟩
      have HL6 := Lib.hid (HL5.out.below hb6).1
      have HF6 := Lib.hid (HF5.out.below HL5.out hb6)
      have HB6 := Lib.hid (bel2 HB5.out hb6)
      clear hb6 HF5
      clear HL5
      go_wp2_with fail
      refine (lease_ok _).mono ?_
      rintro e w7 ⟨rfl, hb7⟩
      have HL7 := Lib.hid (HL6.out.below hb7).1
      have HF7 := Lib.hid (HF6.out.below HL6.out hb7)
      have HB7 := Lib.hid (bel2 HB6.out hb7)
      clear hb7 HF6
      clear HL6
      go_wp2_with fail
      refine (exEnd3 _ _ _ _ HL7.out).mono ?_
      rintro e w8 ⟨rfl, hb8⟩
      have HL8 := Lib.hid (HL7.out.below hb8).1
      have HF8 := Lib.hid (HF7.out.below HL7.out hb8)
      have HB8 := Lib.hid (bel2 HB7.out hb8)
      clear hb8 HF7
      clear HL7
      go_wp2_with fail
      refine (file_ok _).mono ?_
      rintro e w9 ⟨rfl, hb9⟩
      have HL9 := Lib.hid (HL8.out.below hb9).1
      have HF9 := Lib.hid (HF8.out.below HL8.out hb9)
      have HB9 := Lib.hid (bel2 HB8.out hb9)
      clear hb9 HF8
      clear HL8
      go_wp2_with fail
      refine (exFirst _ _ _ _ HL9.out).mono ?_
      rintro e w10 ⟨rfl, hb10⟩
      have hb11 := bel2 hb10 (bel_new w10 (.cells #[.int .i64 5, .int .i64 1, .int .i64 3, .int .u32 1, .int .i64 1, .int .i64 2] 32))
      have HL11 := Lib.hid (HL9.out.below hb11).1
      have HF11 := Lib.hid (HF9.out.below HL9.out hb11)
      have HB11 := Lib.hid (bel2 HB9.out hb11)
      have HX11 := Lib.hid (Bk.new w10 32 #[.int .i64 5, .int .i64 1, .int .i64 3, .int .u32 1, .int .i64 1, .int .i64 2])
      clear hb10 hb11 HF9
      clear HL9
      go_wp2_with fail
      generalize w10.alloc (.cells #[.int .i64 5, .int .i64 1, .int .i64 3, .int .u32 1, .int .i64 1, .int .i64 2] 32) = w11 at *
      refine (exPrint _ _ _ _ HF11.out.rd (HE.out.below HB11.out)).mono ?_
      rintro e w12 ⟨rfl, hb12⟩
      have HL12 := Lib.hid (HL11.out.below hb12).1
      have HF12 := Lib.hid (HF11.out.below HL11.out hb12)
      have HB12 := Lib.hid (bel2 HB11.out hb12)
      have HX12 := Lib.hid (HX11.out.below hb12)
      clear hb12 HF11 HX11
      clear HL11
      go_wp2_with fail
      refine (exParse _ (HE.out.below HB12.out)).mono ?_
      rintro e w13 ⟨p2, c2, rfl, hr13, hb13⟩
      have HL13 := Lib.hid (HL12.out.below hb13).1
      have HF13 := Lib.hid (HF12.out.below HL12.out hb13)
      have HB13 := Lib.hid (bel2 HB12.out hb13)
      have HX13 := Lib.hid (HX12.out.below hb13)
      have HR13 := Lib.hid hr13
      clear hb13 HF12 HX12 hr13
      clear HL12
      have hcap := HF13.out.rd.cap.2.1
      have hcp : 3 ≤ c := hcap
      have hcm := HF13.out.rd.cap.2.2.1
      clear hcap
      have hcI : (2 : Int) ≤ (c : Int) := by omega
      have hcJ : ¬ (c : Int) < 2 := by omega
      have hcK : (0 : Int) ≤ 2 := by decide
      go_wp2
      rw [show bstr exB = ⟨#[53, 32, 102, 51, 58, 49, 32, 99, 108, 111, 115, 101, 32, 108, 97, 116, 101, 114, 10, 57, 32, 102, 51, 58, 49, 32, 99, 108, 111, 115, 101, 32, 111, 107, 10, 57, 32, 108, 48, 58, 50, 32, 99, 111, 108, 108, 101, 99, 116, 32, 102, 97, 105, 108, 10]⟩ from rfl]
      have HS : Hid (∀ W, Below w13.heap.size w13 W → (W.cell? ⟨w10.heap.size, 0, none⟩ = some (.int .i64 5) ∧ W.cell? ⟨w10.heap.size, 1, none⟩ = some (.int .i64 1) ∧ W.cell? ⟨w10.heap.size, 2, none⟩ = some (.int .i64 3) ∧ W.cell? ⟨w10.heap.size, 3, none⟩ = some (.int .u32 1) ∧ W.cell? ⟨w10.heap.size, 4, none⟩ = some (.int .i64 1) ∧ W.cell? ⟨w10.heap.size, 5, none⟩ = some (.int .i64 2) ∧ W.cell? ⟨gl, off, none⟩ = some (.int .i64 5) ∧ W.cell? ⟨gl, off + 1, none⟩ = some (.int .i64 1) ∧ W.cell? ⟨gl, off + 2, none⟩ = some (.int .i64 3) ∧ W.cell? ⟨gl, off + 3, none⟩ = some (.int .u32 1) ∧ W.cell? ⟨gl, off + 4, none⟩ = some (.int .i64 1) ∧ W.cell? ⟨gl, off + 5, none⟩ = some (.int .i64 2))) := fun W hW => by
        have b1 := HX13.out.below hW
        obtain ⟨g', o', e', _, k0, k1, k2, k3, k4, k5⟩ := (HF13.out.rd.below hW).cell (j := 0) (by decide)
        injection e' with e'
        injection e' with e1 e2
        subst e1 e2
        have e0 : [ex1, ex2, ex3][0] = ex1 := rfl
        rw [e0] at k0 k1 k2 k3 k4 k5
        simp only [Nat.zero_mul, Nat.add_zero, ex1] at k0 k1 k2 k3 k4 k5
        exact ⟨b1.cell 0, b1.cell 1, b1.cell 2, b1.cell 3, b1.cell 4, b1.cell 5, k0, k1, k2, k3, k4, k5⟩
      have hz0 := HS.out _ (Below.refl _ _)
      have HD0 := Lib.hid (bel_drew (Below.refl _ _) : Below w13.heap.size w13 w13.drew)
      go_region_held3 (fun W => W.cell? ⟨w10.heap.size, 0, none⟩ = some (.int .i64 5) ∧ W.cell? ⟨w10.heap.size, 1, none⟩ = some (.int .i64 1) ∧ W.cell? ⟨w10.heap.size, 2, none⟩ = some (.int .i64 3) ∧ W.cell? ⟨w10.heap.size, 3, none⟩ = some (.int .u32 1) ∧ W.cell? ⟨w10.heap.size, 4, none⟩ = some (.int .i64 1) ∧ W.cell? ⟨w10.heap.size, 5, none⟩ = some (.int .i64 2) ∧ W.cell? ⟨gl, off, none⟩ = some (.int .i64 5) ∧ W.cell? ⟨gl, off + 1, none⟩ = some (.int .i64 1) ∧ W.cell? ⟨gl, off + 2, none⟩ = some (.int .i64 3) ∧ W.cell? ⟨gl, off + 3, none⟩ = some (.int .u32 1) ∧ W.cell? ⟨gl, off + 4, none⟩ = some (.int .i64 1) ∧ W.cell? ⟨gl, off + 5, none⟩ = some (.int .i64 2)) (first | (with_reducible exact hza) | (with_reducible exact hzb) | (with_reducible exact hzc) | (with_reducible exact hzd) | exact hz0)
        (first
        | (go_at_call 18; refine (file_ok _).mono ?_; rintro e wa ⟨rfl, hba⟩; have HBa := Lib.hid (bel2 HD0.out hba); have hza := HS.out _ HBa.out; clear hba hz0)
        | (go_at_call 27; refine (exOf _ _ _ _ (HL13.out.below HBa.out).1).mono ?_; rintro e wb ⟨p3, c3, rfl, hrb, hbb⟩; have HBb := Lib.hid (bel2 HBa.out hbb); have HRb := Lib.hid hrb; have hzb := HS.out _ HBb.out; clear hrb hbb hza)
        | (go_at_call 26; refine (equal_yes _ _ _ _ _ _ [ex1, ex2, ex3] _ (HR13.out.below HBc.out) (HF13.out.rd.below HBc.out)).mono ?_; rintro e wd ⟨rfl, hbd⟩; have HBd := Lib.hid (bel2 HBc.out hbd); have hzd := HS.out _ HBd.out; clear hbd hzc)
        | (go_at_call 26; refine (equal_yes _ _ _ _ _ _ [ex1, ex2] _ HRb.out ((HF13.out.rd.below HBb.out).take (m := 2) (by decide))).mono ?_; rintro e wc ⟨rfl, hbc⟩; have HBc := Lib.hid (bel2 HBb.out hbc); have hzc := HS.out _ HBc.out; clear hbc hzb))
      all_goals
        clear hzd
        go_wp2
        go_ret
        exact ⟨rfl, HB13.out.trans (HBd.out.mono HB13.out.size)⟩
end Go.Proofs.YtenggngcigkakaaGreatDoor
