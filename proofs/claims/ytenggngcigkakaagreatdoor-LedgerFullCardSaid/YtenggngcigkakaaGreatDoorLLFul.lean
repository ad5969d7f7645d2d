/- LedgerFull gives true: the walk. -/
import Derived.Test.YtenggngcigkakaaGreatDoorIj
namespace Go.Proofs.YtenggngcigkakaaGreatDoor
open Go.RowKit

def fulA : Att := ⟨0, 1, 3, 1, 1, 2⟩
def fulB : Att := ⟨0, 1, 3, 1, 1, 1⟩
theorem fulA_ok : fulA.Ok := by constructor <;> decide
theorem fulB_ok : fulB.Ok := by constructor <;> decide
theorem ful_last (j : Nat) : ¬ ∃ z, (List.replicate j fulA).getLast? = some z ∧ fulA.t < z.t := by
  rintro ⟨z, hz, hlt⟩
  obtain rfl := (List.mem_replicate.1 (List.mem_of_getLast? hz)).2
  exact absurd hlt (Int.lt_irrefl _)
theorem ful_add (j : Nat) (h : j < 10000) : addE (List.replicate j fulA) fulA = 0 := addE_ok fulA_ok (ful_last j) (by rw [List.length_replicate]; exact h)
theorem ful_addL (j : Nat) (h : j < 10000) : addL (List.replicate j fulA) fulA = List.replicate (j + 1) fulA := by rw [addL_ok (ful_add j h), List.replicate_succ']
theorem ful_full (j : Nat) (h : j = 10000) : addE (List.replicate j fulA) fulA = 4 := addE_full fulA_ok (ful_last _) (by rw [List.length_replicate]; omega)
theorem ful_of (j : Nat) : ofL (List.replicate j fulA) 1 3 1 = List.replicate j fulA := List.filter_eq_self.2 fun x hx => by
  obtain rfl := (List.mem_replicate.1 hx).2
  decide
theorem dig1f (u : Nat) (h : u < 10) : Lib.decDigits u = [(48 + u).toUInt8] := by rw [Lib.decDigits, dif_pos h]
theorem ful_text : (aText fulB).length = 15 := by
  have e3 : Lib.decDigits 3 = [51] := dig1f 3 (by decide)
  have e1 : Lib.decDigits 1 = [49] := dig1f 1 (by decide)
  have e0 : Lib.decDigits 0 = [48] := dig1f 0 (by decide)
  have t3 : (3 : Int).toNat = 3 := rfl
  have t1 : (1 : Int).toNat = 1 := rfl
  have t0 : (0 : Int).toNat = 0 := rfl
  simp only [aText, txt, fulB, t3, t1, t0, e3, e1, e0]
  decide
theorem ful_lines (m : Nat) : (lines (rep [fulB] m)).length = m * 16 := by
  induction m with
  | zero => rfl
  | succ m ih =>
    rw [rep_add, lines_append, List.length_append, ih, rep_one, lines_one, List.length_append, ful_text]
    simp; omega
theorem ful_ok (m : Nat) : AllOk (rep [fulB] m) := fun x hx => by
  obtain rfl := List.mem_singleton.1 (rep_mem hx)
  exact fulB_ok
theorem rd_one (W : World) (B : Att) : RdA (W.alloc (.cells #[.int .i64 B.t, .int .i64 B.k, .int .i64 B.i, .int .u32 B.g, .int .i64 B.y, .int .i64 B.n] 32)) (.slice (some ⟨W.heap.size, 0, none⟩) 1 1) [B] := by
  have hb : Bk (W.alloc (.cells #[.int .i64 B.t, .int .i64 B.k, .int .i64 B.i, .int .u32 B.g, .int .i64 B.y, .int .i64 B.n] 32)) W.heap.size 32 B.cl.toArray := Bk.new W _ _
  refine ⟨_, 1, rfl, Nat.le_refl _, by omega, fun e => (by cases e), fun _ => ⟨W.heap.size, 0, rfl, hb.lt, fun j x hj => ?_⟩⟩
  rw [Nat.zero_add, hb.cell]
  simpa [cls] using hj
theorem ful_rep (m : Nat) (hm1 : 1 ≤ m) (hm2 : m ≤ 100000) (q : Option Addr) (w : World) (hr : RdA w (.slice q 1 1) [fulB]) : Calls Tryz.prog 33 #[.slice q 1 1, .int .i64 m] w fun e w' => ∃ p c, e = .returned (.slice p m c) ∧ RdA w' (.slice p m c) (rep [fulB] m) ∧ Below w.heap.size w w' := by
  refine (repeat_ok q 1 1 [fulB] m w hr hm1 hm2 (by decide)).mono ?_
  rintro e w' ⟨v, rfl, ho, hb⟩
  have hr := RdA.of_own ho
  obtain ⟨p, c, rfl⟩ := rd_slice hr
  rw [show (rep [fulB] m).length = m by rw [rep_length]; simp] at hr ⊢
  exact ⟨p, c, rfl, hr, hb⟩
theorem ful_rep4 (q : Option Addr) (w : World) (hr : RdA w (.slice q 1 1) [fulB]) (l4 : List Att) (h4 : l4 = rep [fulB] 4096) : Calls Tryz.prog 33 #[.slice q 1 1, .int .i64 4096] w fun e w' => ∃ p c, e = .returned (.slice p 4096 c) ∧ RdA w' (.slice p 4096 c) l4 ∧ Below w.heap.size w w' := by
  obtain ⟨m, hm⟩ : ∃ m, m = 4096 := ⟨_, rfl⟩
  have h := ful_rep m (by omega) (by omega) q w hr
  rw [h4, ← hm, show (4096 : Int) = (m : Int) by omega]
  exact h
theorem ful_rep5 (q : Option Addr) (w : World) (hr : RdA w (.slice q 1 1) [fulB]) (l4 : List Att) (h4 : l4 = rep [fulB] 4097) : Calls Tryz.prog 33 #[.slice q 1 1, .int .i64 4097] w fun e w' => ∃ p c, e = .returned (.slice p 4097 c) ∧ RdA w' (.slice p 4097 c) l4 ∧ Below w.heap.size w w' := by
  obtain ⟨m, hm⟩ : ∃ m, m = 4097 := ⟨_, rfl⟩
  have h := ful_rep m (by omega) (by omega) q w hr
  rw [h4, ← hm, show (4097 : Int) = (m : Int) by omega]
  exact h
set_option maxRecDepth 100000 in
set_option maxHeartbeats 8000000 in
theorem lFul_walk (w : World) (he : EnvL w) : Calls Tryz.prog 12 #[] w fun e w' => e = .returned (.bool true) ∧ Below w.heap.size w w' := by
  have HE := Lib.hid he
  clear he
  obtain ⟨LT, hLT⟩ : ∃ LT, bstr (lines (rep [fulB] 4096)) = LT := ⟨_, rfl⟩
  obtain ⟨R4, hR4⟩ : ∃ R4, R4 = rep [fulB] 4096 := ⟨_, rfl⟩
  obtain ⟨R5, hR5⟩ : ∃ R5, R5 = rep [fulB] 4097 := ⟨_, rfl⟩
  have hLS : LT.size = 65536 := by rw [← hLT, bstr_size, ful_lines]
  have HP4 : Hid (∀ W (q : Option Addr) (m k : Nat), RdA W (.slice q m k) R4 → EnvL W → Calls Tryz.prog 35 #[.slice q m k] W fun e w' => e = .returned (.tuple #[.string LT, .int .i64 0]) ∧ Below W.heap.size W w') := fun W q m k hr he => by
    rw [hR4] at hr
    have h := lprint_ok q m k _ W hr (ful_ok _) he
    rw [ful_lines, if_pos (by decide), if_pos (by decide)] at h
    unfold TextV at h
    rw [hLT] at h
    exact h
  have HP5 : Hid (∀ W (q : Option Addr) (m k : Nat), RdA W (.slice q m k) R5 → EnvL W → Calls Tryz.prog 35 #[.slice q m k] W fun e w' => (∃ s, e = .returned (.tuple #[.string s, .int .i64 10])) ∧ Below W.heap.size W w') := fun W q m k hr he => by
    rw [hR5] at hr
    have h := lprint_ok q m k _ W hr (ful_ok _) he
    rw [ful_lines, if_neg (by decide), if_neg (by decide)] at h
    refine h.mono ?_
    rintro e w' ⟨rfl, hb⟩
    exact ⟨⟨_, rfl⟩, hb⟩
  have HPA : Hid (∀ W, EnvL W → Calls Tryz.prog 37 #[.string LT] W fun e w' => (∃ p c, e = .returned (.tuple #[.slice p 4096 c, .int .i64 0, .int .i64 0])) ∧ Below W.heap.size W w') := fun W he => by
    rw [← hLT]
    refine (lparse_ok _ (by rw [ful_lines]; decide) W he).mono ?_
    rintro e w' ⟨ys, r, hP, hB, h⟩
    obtain ⟨rfl, rfl⟩ := hP.uniq (prel_lines (ful_ok _))
    rcases h with ⟨_, v, rfl, ho⟩ | ⟨h, _⟩
    · have hs := rd_slice (RdA.of_own ho)
      rw [show (rep [fulB] 4096).length = 4096 by rw [rep_length]; simp] at hs
      obtain ⟨p, c, rfl⟩ := hs
      exact ⟨⟨p, c, rfl⟩, hB⟩
    · exact absurd rfl h
  have HPX : Hid (∀ W, Calls Tryz.prog 37 #[.string (LT ++ ⟨#[120]⟩)] W fun e w' => e = .returned (.tuple #[.slice none 0 0, .int .i64 0, .int .i64 10]) ∧ W = w') := fun W => by
    rw [← hLT, show (⟨#[120]⟩ : ByteArray) = bstr [120] from rfl, bstr_append]
    exact lparse_long _ (by rw [List.length_append, ful_lines]; decide) W
  have HR4 := Lib.hid hR4
  have HR5 := Lib.hid hR5
  clear hLT hR4 hR5
  go_enter Tryz.func12, Tryz.ntmps12
  go_wp2_with fail
  refine (new_ok _).mono ?_
  rintro e w1 ⟨rfl, hl1, hb1⟩
  go_wp2_with fail
  refine (file_ok _).mono ?_
  rintro e w2 ⟨rfl, hb2⟩
  have hbb := bel2 hb2 (bel_new w2 (.cells #[.int .i64 0, .int .i64 1, .int .i64 3, .int .u32 1, .int .i64 1, .int .i64 2] 32))
  have HB3 := Lib.hid (bel2 hb1 hbb)
  have HL3 : Hid (LedW (w2.alloc (.cells #[.int .i64 0, .int .i64 1, .int .i64 3, .int .u32 1, .int .i64 1, .int .i64 2] 32)) (w.heap.size + 2) (w.heap.size + 1) w.heap.size (List.replicate 0 fulA)) := (hl1.below hbb).1
  have HX3 := Lib.hid (Bk.new w2 32 #[.int .i64 0, .int .i64 1, .int .i64 3, .int .u32 1, .int .i64 1, .int .i64 2])
  have HFR : Hid (∀ g, Foot (w2.alloc (.cells #[.int .i64 0, .int .i64 1, .int .i64 3, .int .u32 1, .int .i64 1, .int .i64 2] 32)) (w.heap.size + 1) g → g ≠ w2.heap.size) := fun g hg e => by
    have h1 := (hl1.foot_le (((hl1.below hbb).2 g).1 hg)).2
    have := hb2.size
    omega
  clear hl1 hb1 hb2 hbb
  unfold okey
  go_wp2
  generalize w2.alloc (.cells #[.int .i64 0, .int .i64 1, .int .i64 3, .int .u32 1, .int .i64 1, .int .i64 2] 32) = w3 at *
  generalize w2.heap.size = x at *
  go_loopw [17] (fun i wr => ∃ j : Nat, j ≤ 10000 ∧ i = .int .i64 j ∧ Hid (LedW wr (w.heap.size + 2) (w.heap.size + 1) w.heap.size (List.replicate j fulA)) ∧ Hid (Bk wr x 32 #[.int .i64 0, .int .i64 1, .int .i64 3, .int .u32 1, .int .i64 1, .int .i64 2]) ∧ Hid (∀ g, Foot wr (w.heap.size + 1) g → g ≠ x) ∧ Hid (Below w.heap.size w wr)) (fun i _ => 10000 - (intOf i).toNat)
  case atStart => exact ⟨0, Nat.zero_le _, rfl, HL3, HX3, HFR, HB3⟩
  case round =>
    obtain ⟨j, hj, rfl, HL, HX, HF, HB⟩ := hrel
    clear HL3 HX3 HFR HB3
    by_cases hlt : j < 10000
    · have HAE := Lib.hid (ful_add j hlt)
      have HAL := Lib.hid (ful_addL j hlt)
      have d0 := HX.out.cell 0
      have d1 := HX.out.cell 1
      have d2 := HX.out.cell 2
      have d3 := HX.out.cell 3
      have d4 := HX.out.cell 4
      have d5 := HX.out.cell 5
      go_wp2_with fail
      refine (add_ok _ _ _ _ fulA wr HL.out fulA_ok.rg (HE.out.below HB.out)).mono ?_
      rintro e w4 ⟨rfl, hl4, hk4, hf4⟩
      rw [HAL.out] at hl4
      rw [HAE.out]
      have HX4 : Hid (Bk w4 x 32 #[.int .i64 0, .int .i64 1, .int .i64 3, .int .u32 1, .int .i64 1, .int .i64 2]) := HX.out.kept hk4 (fun hg => HF.out x hg rfl)
      have HF4 : Hid (∀ g, Foot w4 (w.heap.size + 1) g → g ≠ x) := fun g hg e => by
        rcases hf4 g hg with h | h
        · exact HF.out g h e
        · have := HX.out.lt; omega
      have HB4 := Lib.hid (HB.out.trans (hk4.below HB.out.size (fun g hg => (HL.out.foot_le hg).1)))
      have HL4 := Lib.hid hl4
      clear hl4 hk4 hf4 d0 d1 d2 d3 d4 d5 HL HX HF HB
      go_wp2
      go_roundw
      case rel => exact ⟨j + 1, by omega, by go_num, HL4.out, HX4.out, HF4.out, HB4.out⟩
      case measure => simp [intOf]; omega
    · have HJ : Hid (j = 10000) := by rw [Hid]; omega
      have HFU := Lib.hid (ful_full j HJ.out)
      have HJI : Hid ((j : Int) = 10000) := by rw [Hid, HJ.out]; rfl
      have d0 := HX.out.cell 0
      have d1 := HX.out.cell 1
      have d2 := HX.out.cell 2
      have d3 := HX.out.cell 3
      have d4 := HX.out.cell 4
      have d5 := HX.out.cell 5
      go_wp2_with fail
      refine (add_ok _ _ _ _ fulA wr HL.out fulA_ok.rg (HE.out.below HB.out)).mono ?_
      rintro e w4 ⟨rfl, hl4, hk4, hf4⟩
      rw [addL_no (by rw [HFU.out]; decide)] at hl4
      rw [HFU.out]
      have HB4 := Lib.hid (HB.out.trans (hk4.below HB.out.size (fun g hg => (HL.out.foot_le hg).1)))
      have HL4 := Lib.hid hl4
      clear hl4 hk4 hf4 d0 d1 d2 d3 d4 d5 HL HX HF HB
      go_wp2_with fail
      refine (len_ok _ _ _ _ _ HL4.out).mono ?_
      rintro e w' ⟨rfl, rfl⟩
      rw [List.length_replicate, HJI.out]
      go_wp2_with fail
      refine (file_ok _).mono ?_
      rintro e w5 ⟨rfl, hb5⟩
      have HB5 := Lib.hid (bel2 HB4.out hb5)
      have HL5 := Lib.hid (HL4.out.below hb5).1
      clear hb5 HB4 HL4
      go_wp2_with fail
      refine (ofs_ok _ _ _ _ 1 3 1 rgo1 _ HL5.out).mono ?_
      rintro e w6 ⟨v, rfl, ho, hb6⟩
      obtain ⟨p6, c6, rfl⟩ : ∃ p c, v = .slice p 10000 c := by
        have := rd_slice (RdA.of_own ho)
        rw [ful_of, List.length_replicate, HJ.out] at this
        exact this
      have HB6 := Lib.hid (bel2 HB5.out hb6)
      clear hb6 ho HB5 HL5
      go_wp2_with fail
      refine (file_ok _).mono ?_
      rintro e w7 ⟨rfl, hb7⟩
      have HB7 := Lib.hid (bel2 HB6.out hb7)
      clear hb7 HB6
      unfold okey
      have HX8 := Lib.hid (Bk.new w7 32 #[.int .i64 0, .int .i64 1, .int .i64 3, .int .u32 1, .int .i64 1, .int .i64 1])
      have HB8 := Lib.hid (bel2 HB7.out (bel_new w7 (.cells #[.int .i64 0, .int .i64 1, .int .i64 3, .int .u32 1, .int .i64 1, .int .i64 1] 32)))
      go_wp2_with fail
      have hs8 := size_up w7 (.cells #[.int .i64 0, .int .i64 1, .int .i64 3, .int .u32 1, .int .i64 1, .int .i64 1] 32)
      generalize w7.alloc (.cells #[.int .i64 0, .int .i64 1, .int .i64 3, .int .u32 1, .int .i64 1, .int .i64 1] 32) = w8 at *
      rw [← hs8]
      clear hs8
      refine (ful_rep4 _ _ (rd_one w8 fulB) R4 HR4.out).mono ?_
      rintro e w9 ⟨p9, c9, rfl, hr9, hb9⟩
      have hb9' := bel2 (bel_new w8 (.cells #[.int .i64 0, .int .i64 1, .int .i64 3, .int .u32 1, .int .i64 1, .int .i64 1] 32)) hb9
      have HB9 := Lib.hid (bel2 HB8.out hb9')
      have HX9 := Lib.hid (HX8.out.below hb9')
      have HR9 := Lib.hid hr9
      clear hb9 hb9' hr9 HB8 HX8 HB7
      go_wp2_with fail
      refine (HP4.out _ _ _ _ HR9.out (HE.out.below HB9.out)).mono ?_
      rintro e w10 ⟨rfl, hb10⟩
      have HB10 := Lib.hid (bel2 HB9.out hb10)
      have HX10 := Lib.hid (HX9.out.below hb10)
      clear hb10 HB9 HX9 HR9
      have d0 := HX10.out.cell 0
      have d1 := HX10.out.cell 1
      have d2 := HX10.out.cell 2
      have d3 := HX10.out.cell 3
      have d4 := HX10.out.cell 4
      have d5 := HX10.out.cell 5
      go_wp2_with fail
      refine (ful_rep5 _ _ (rd_one w10 fulB) R5 HR5.out).mono ?_
      rintro e w11 ⟨p11, c11, rfl, hr11, hb11⟩
      have HB11 := Lib.hid (bel2 HB10.out (bel2 (bel_new w10 (.cells #[.int .i64 0, .int .i64 1, .int .i64 3, .int .u32 1, .int .i64 1, .int .i64 1] 32)) hb11))
      have HR11 := Lib.hid hr11
      clear hb11 hr11 HB10 HX10 d0 d1 d2 d3 d4 d5
      go_wp2_with fail
      refine (HP5.out _ _ _ _ HR11.out (HE.out.below HB11.out)).mono ?_
      rintro e w12 ⟨⟨s12, rfl⟩, hb12⟩
      have HB12 := Lib.hid (bel2 HB11.out hb12)
      clear hb12 HB11 HR11
      go_wp2_with fail
      refine (HPA.out _ (HE.out.below HB12.out)).mono ?_
      rintro e w13 ⟨⟨p13, c13, rfl⟩, hb13⟩
      have HB13 := Lib.hid (bel2 HB12.out hb13)
      clear hb13 HB12
      go_wp2_with fail
      refine (HPX.out _).mono ?_
      rintro e w' ⟨rfl, rfl⟩
      go_wp2_with fail
      refine (works_ok _ (HE.out.below HB13.out)).mono ?_
      rintro e w14 ⟨rfl, hb14⟩
      have HB14 := Lib.hid (bel2 HB13.out hb14)
      clear hb14
      go_wp2
      go_ret
      exact ⟨rfl, HB14.out⟩
end Go.Proofs.YtenggngcigkakaaGreatDoor
