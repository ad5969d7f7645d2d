/- The walk of the statement TagsParts: it returns true for every text and all widths. -/
import Derived.Test.YtmgkdklpahggjaaDoorWe
namespace Go.Proofs.YtmgkdklpahggjaaDoor
open Go.RowKit

theorem fit_next : ∀ (ps : List Nat) (r : Nat) (ts : List Nat) (w : Nat), fit (ps ++ r :: ts) w = ps → w < wids ps + wid r
  | [], r, ts, w, h => by
    rw [List.nil_append, fit] at h
    have h0 : wids [] = 0 := rfl
    by_cases c : wid r ≤ w
    · rw [if_pos c] at h; cases h
    · omega
  | p :: ps, r, ts, w, h => by
    rw [List.cons_append, fit] at h
    by_cases c : wid p ≤ w
    · rw [if_pos c] at h
      have := fit_next ps r ts _ (List.cons.inj h).2
      rw [wids_cons]; omega
    · rw [if_neg c] at h; cases h
theorem enc_len_append (a b : List Nat) : ((a ++ b).flatMap encR).length = (a.flatMap encR).length + (b.flatMap encR).length := by simp
theorem enc_len_pos (r : Nat) (l : List Nat) : 0 < ((r :: l).flatMap encR).length := by
  have := (encR_length r).1; rw [List.flatMap_cons, List.length_append]; omega

/-- What is cut: its bytes, and that it is a beginning. -/
theorem cut_list {s : ByteArray} {rs : List Nat} (hu : Utf s.data.toList rs) (w : Nat) : (cutB s rs w).data.toList = (fit rs w).flatMap encR ∧ ∃ ts, rs = fit rs w ++ ts := by
  obtain ⟨ts, hts⟩ := fit_pre rs w
  refine ⟨?_, ts, hts.symm⟩
  unfold cutB
  rw [Lib.extract_data, List.drop_zero, Nat.sub_zero, hu.2]
  conv => lhs; arg 2; rw [← hts]
  rw [List.flatMap_append, List.take_left]
theorem ba_eq {a b : ByteArray} (h : a.data.toList = b.data.toList) : a = b := by
  rw [← Lib.mk_data a, ← Lib.mk_data b, h]
theorem extract_take (s : ByteArray) (k : Nat) : (s.extract 0 k).data.toList = s.data.toList.take k := by
  rw [Lib.extract_data, List.drop_zero, Nat.sub_zero]

def PtRel (s : ByteArray) (rs fa : List Nat) (n k1 : Nat) (w : World) (u v x : Value) (wr : World) : Prop :=
  ∃ (ps ts : List Nat) (a b c po : Nat), Hid (rs = ps ++ ts) ∧ u = .int .i64 a ∧ v = .int .i64 b ∧ x = .int .i64 c ∧ Hid (a = ps.length) ∧ Hid (b = wids ps) ∧ a ≤ 24 ∧ b ≤ 48 ∧ c ≤ 48 ∧
    Hid (po = (ps.flatMap encR).length) ∧ Hid (Below n w wr) ∧ wr.heap[k1]? = some (.stringIter s po) ∧
    Hid ((∃ qs, fa = ps ++ qs ∧ c = wids ps) ∨ (∃ q qs, ps = fa ++ q :: qs ∧ c = wids fa))

set_option maxRecDepth 100000 in
set_option maxHeartbeats 8000000 in
theorem parts_tag (s A B : ByteArray) (rs fa : List Nat) (x1 x2 wd vd : Nat) (w : World) (he : Env w) (ht : Tag s.data.toList rs) (hx1 : x1 < 256) (hx2 : x2 < 256) (hw : x1 % 60 = wd) (hv : x2 % 60 = vd)
    (hA : cutB s rs wd = A) (hB : cutB s rs (min wd vd) = B) (hfa : fit rs wd = fa) :
    Calls Tryd.prog 9 #[.string s, .int .u8 x1, .int .u8 x2] w fun e w' => e = .returned (.bool true) ∧ Below w.heap.size w w' := by
  have hs : s.size ≤ 96 := by rw [Lib.size_eq]; exact (tag_len ht).2
  have h24 := ht.le
  have hw48 : wids rs ≤ 48 := by have := (wids_le rs).2; omega
  have hwl := wids_le rs
  obtain ⟨hAl, ra, hra⟩ := cut_list ht.utf wd
  obtain ⟨hBl, rb, hrb⟩ := cut_list ht.utf (min wd vd)
  rw [hA, hfa] at hAl
  rw [hfa] at hra
  rw [hB] at hBl
  have hfb : fit fa vd = fit rs (min wd vd) := by rw [← hfa]; exact fit_fit rs wd vd
  have hAs : A.size = (fa.flatMap encR).length := by rw [Lib.size_eq, hAl]
  have hsl : s.size = (rs.flatMap encR).length := by rw [Lib.size_eq, ht.utf.2]
  have hA1 : A.size ≤ s.size := by rw [hAs, hsl]; conv => rhs; rw [hra]
                                   rw [enc_len_append]; omega
  have hA2 : s.extract 0 A.size = A := by
    apply ba_eq
    rw [extract_take, hAs, hAl, ht.utf.2]
    conv => lhs; arg 2; rw [hra]
    rw [List.flatMap_append, List.take_left]
  obtain ⟨rc, hrc⟩ := fit_pre fa vd
  rw [hfb] at hrc
  have hBs : B.size = ((fit rs (min wd vd)).flatMap encR).length := by rw [Lib.size_eq, hBl]
  have hB1 : B.size ≤ A.size := by rw [hBs, hAs, ← hrc, enc_len_append]; omega
  have hB2 : A.extract 0 B.size = B := by
    apply ba_eq
    rw [extract_take, hBs, hBl, hAl, ← hrc, List.flatMap_append, List.take_left]
  have hfw : wids fa ≤ wd := by rw [← hfa]; exact fit_le rs wd
  have HU := Lib.hid ht.utf
  have HT := Lib.hid ht
  have HFB := Lib.hid hfb
  have HAL := Lib.hid hAl
  have HAS := Lib.hid hAs
  have HBS := Lib.hid hBs
  have HRA := Lib.hid hra
  have HFA := Lib.hid hfa
  have HCA := Lib.hid hA
  have HCB := Lib.hid hB
  have HSL := Lib.hid hsl
  have HE := Lib.hid he
  clear ht hfb hAl hBl hAs hBs hra hrb hrc hfa hA hB hsl he rb rc
  have hwd60 : wd < 60 := by omega
  have hvd60 : vd < 60 := by omega
  have e1 : ((x1 : Int) % 60) = wd := by omega
  have e2 : ((x2 : Int) % 60) = vd := by omega
  clear hw hv
  obtain ⟨mn, hmn⟩ : ∃ mn, min wd vd = mn := ⟨_, rfl⟩
  rw [hmn] at HCB
  generalize hwr : wids rs = wr0 at *
  have HWR := Lib.hid hwr
  clear hwr
  have hmi : min (wd : Int) (vd : Int) = (mn : Int) := by omega
  have HMI := Lib.hid hmi
  have hmw : mn ≤ wd := by omega
  clear hmi hmn
  go_enter Tryd.func9, Tryd.ntmps9
  go_wp2_with fail
  refine (check_tag s rs _ HE.out HT.out).mono ?_
  rintro e w1 ⟨rfl, hb1⟩
  have B1 := Lib.hid hb1
  clear hb1
  go_wp2_with fail
  refine (cut_tag s rs wd _ (HE.out.below B1.out) HT.out (by omega)).mono ?_
  rintro e w2 ⟨rfl, hb2⟩
  rw [HCA.out]
  have B2 := Lib.hid (bel2 B1.out hb2)
  clear hb2 B1
  go_wp2_with fail
  rw [HMI.out]
  refine (cut_tag s rs mn _ (HE.out.below B2.out) HT.out (by omega)).mono ?_
  rintro e w3 ⟨rfl, hb3⟩
  rw [HCB.out]
  have B3 := Lib.hid (bel2 B2.out hb3)
  clear hb3 B2
  go_wp2_with fail
  refine (width_tag s rs _ (HE.out.below B3.out) HT.out).mono ?_
  rintro e w4 ⟨rfl, hb4⟩
  rw [HWR.out]
  have B4 := Lib.hid (bel2 B3.out hb4)
  have hs4 : w.heap.size ≤ w4.heap.size := B4.out.size
  clear hb4 B3
  go_wp2_with fail
  have hit0 : (w4.iter s 0).heap[w4.heap.size]? = some (.stringIter s 0) := World.iter_heap w4 s 0
  have hbi : Below w.heap.size w (w4.iter s 0) := B4.out.trans ((Below.refl w.heap.size w4).alloc (by omega) _)
  go_loopw [15, 16, 17] (fun u v x wr => PtRel s rs fa w.heap.size w4.heap.size w u v x wr) (fun _ _ _ wr => s.size - wr.iterPos w4.heap.size)
  case atStart => exact ⟨[], rs, 0, 0, 0, 0, rfl, rfl, rfl, rfl, rfl, rfl, Nat.zero_le _, Nat.zero_le _, Nat.zero_le _, rfl, hbi, by simpa using hit0, .inl ⟨fa, rfl, rfl⟩⟩
  case round =>
    clear hit0 hbi
    obtain ⟨ps, ts, a, b, c, po, HPT, rfl, rfl, rfl, HA', HB', ha24, hb48, hc48, HPO, HBW, hit, HC⟩ := hrel
    cases ts with
    | nil =>
      have hp : ¬ po < s.size := by rw [HPO.out, HSL.out, HPT.out]; simp
      have hnx : ∀ ty, (Instr.next (.pointer (some ⟨w4.heap.size, 0, none⟩)) true ty).run Tryd.prog wr = _ := fun ty => Lib.run_next_end_at wr w4.heap.size s _ ty hit hp
      clear hp
      have hps : rs = ps := by rw [HPT.out, List.append_nil]
      have hcw : c ≤ wd := by
        rcases HC.out with ⟨qs, hq, hcw⟩ | ⟨q, qs, hq, hcw⟩
        · have hl : qs = [] := by
            have h1 := HRA.out
            rw [hq, ← hps, List.append_assoc] at h1
            have h2 := congrArg List.length h1
            simp at h2
            exact h2.1
          rw [hl, List.append_nil] at hq
          rw [hcw, ← hq]; exact hfw
        · rw [hcw]; exact hfw
      have hbw : b = wr0 := by rw [HB'.out, ← hps, HWR.out]
      have hal : a = rs.length := by rw [HA'.out, ← hps]
      subst hbw
      have hw1 : a ≤ b := by omega
      have hw2 : b ≤ 2 * a := by omega
      clear hal hwl hps HC
      by_cases hnil : fa = []
      · have hAe : A = ⟨#[]⟩ := by apply ba_eq; rw [HAL.out, hnil]; rfl
        have hnw : ¬ b ≤ wd := by
          intro h
          have h1 := HFA.out
          rw [hnil, fit_all rs wd (by rw [HWR.out]; exact h)] at h1
          have := HT.out.pos
          rw [h1] at this
          simp at this
        subst hAe
        go_wp2_with fail
        refine (works_ok _ (HE.out.below HBW.out)).mono ?_
        rintro e w6 ⟨rfl, hb6⟩
        go_wp2
        go_ret
        exact ⟨rfl, bel2 HBW.out hb6⟩
      have HTA : Hid (Tag A.data.toList fa) := by
        refine ⟨⟨fun r hr => HU.out.1 r ?_, HAL.out⟩, ?_, ?_, fun r hr => HT.out.good r ?_⟩
        · rw [HRA.out]; simp [hr]
        · exact List.length_pos_iff.2 hnil
        · have := HT.out.le
          rw [HRA.out] at this
          simp at this
          omega
        · rw [HRA.out]; simp [hr]
      have HCV : Hid (cutB A fa vd = B) := by
        unfold Hid cutB
        rw [HFB.out, ← HBS.out, hB2]
      have hA0 : 0 < A.size := by rw [HAS.out]; cases hfa2 : fa with
        | nil => exact absurd hfa2 hnil
        | cons q l => exact enc_len_pos q l
      by_cases hnw : b ≤ wd
      · have hAS : A = s := by
          apply ba_eq
          rw [HAL.out, ← HFA.out, fit_all rs wd (by rw [HWR.out]; exact hnw), HU.out.2]
        have hATL : A.toList = s.toList := by rw [hAS]
        obtain ⟨hq1, hq2⟩ := nonempty_list s (by omega)
        clear hAS
        go_wp2_with fail
        refine (cut_tag A fa vd _ (HE.out.below HBW.out) HTA.out (by omega)).mono ?_
        rintro e w6 ⟨rfl, hb6⟩
        rw [HCV.out]
        have B6 := Lib.hid (bel2 HBW.out hb6)
        clear hb6
        go_wp2_with fail
        refine (works_ok _ (HE.out.below B6.out)).mono ?_
        rintro e w7 ⟨rfl, hb7⟩
        go_wp2
        go_ret
        exact ⟨rfl, bel2 B6.out hb7⟩
      · obtain ⟨hq1, hq2⟩ := nonempty_list A hA0
        go_wp2_with fail
        refine (cut_tag A fa vd _ (HE.out.below HBW.out) HTA.out (by omega)).mono ?_
        rintro e w6 ⟨rfl, hb6⟩
        rw [HCV.out]
        have B6 := Lib.hid (bel2 HBW.out hb6)
        clear hb6
        go_wp2_with fail
        refine (works_ok _ (HE.out.below B6.out)).mono ?_
        rintro e w7 ⟨rfl, hb7⟩
        go_wp2
        go_ret
        exact ⟨rfl, bel2 B6.out hb7⟩
    | cons r ts =>
      have hr : OkRune r := HU.out.1 r (by rw [HPT.out]; simp)
      have he1 : s.data.toList = ps.flatMap encR ++ (encR r ++ ts.flatMap encR) := by rw [HU.out.2, HPT.out]; simp
      have hdec := decode_at_enc s _ _ r hr he1
      rw [← HPO.out] at hdec
      have hlen := (encR_length r).1
      have hsz : po + (encR r).length ≤ s.size := by rw [HPO.out, Lib.size_eq, he1]; simp
      have hp : po < s.size := by omega
      have hnx0 : ∀ ty, (Instr.next (.pointer (some ⟨w4.heap.size, 0, none⟩)) true ty).run Tryd.prog wr = _ := fun ty => Lib.run_next_any_at wr w4.heap.size s _ ty hit hp
      rw [hdec] at hnx0
      have hit2 := Lib.iterAt_heap wr w4.heap.size s _ (po + (encR r).length) hit
      have HBW2 := Lib.hid (Lib.below_iterAt HBW.out (k := w4.heap.size) (by omega) s (po + (encR r).length))
      have hm0 : wr.iterPos w4.heap.size = po := by simp only [World.iterPos, hit]
      have HM := Lib.hid hm0
      have hle := okRune_le hr
      have h12 := wid_12 r
      have ha2 : a + 1 ≤ 24 := by rw [HPT.out, List.length_append, List.length_cons, ← HA'.out] at h24; omega
      have hb2 : b + wid r ≤ 48 := by have := HWR.out; rw [HPT.out, wids_append, wids_cons, ← HB'.out] at this; omega
      have hpo2 : Hid (po + (encR r).length = ((ps ++ [r]).flatMap encR).length) := by unfold Hid; rw [HPO.out]; simp
      have hpt2 : Hid (rs = (ps ++ [r]) ++ ts) := by unfold Hid; rw [HPT.out]; simp
      have hap2 : Hid (a + 1 = (ps ++ [r]).length) := by unfold Hid; rw [HA'.out]; simp
      have hbp2 : Hid (b + wid r = wids (ps ++ [r])) := by unfold Hid; rw [HB'.out, wids_append, wids_cons]; simp [wids]
      have hcase : (po < A.size ∧ c + wid r ≤ 48 ∧ Hid ((∃ qs, fa = (ps ++ [r]) ++ qs ∧ c + wid r = wids (ps ++ [r])) ∨ (∃ q qs, (ps ++ [r]) = fa ++ q :: qs ∧ c + wid r = wids fa))) ∨
          (po = A.size ∧ c + wid r ≤ 58 ∧ wd < c + wid r ∧ Hid ((∃ qs, fa = (ps ++ [r]) ++ qs ∧ c = wids (ps ++ [r])) ∨ (∃ q qs, (ps ++ [r]) = fa ++ q :: qs ∧ c = wids fa))) ∨
          (A.size < po ∧ Hid ((∃ qs, fa = (ps ++ [r]) ++ qs ∧ c = wids (ps ++ [r])) ∨ (∃ q qs, (ps ++ [r]) = fa ++ q :: qs ∧ c = wids fa))) := by
        rcases HC.out with ⟨qs, hq, hcw⟩ | ⟨q, qs, hq, hcw⟩
        · cases qs with
          | nil =>
            rw [List.append_nil] at hq
            refine .inr (.inl ⟨by rw [HPO.out, HAS.out, hq], by omega, ?_, .inr ⟨r, [], by rw [hq], by rw [hq]; exact hcw⟩⟩)
            rw [hcw]
            refine fit_next ps r ts wd ?_
            rw [← HPT.out, HFA.out, hq]
          | cons q qs =>
            have hqr : q = r := by
              have h1 := HPT.out
              rw [HRA.out, hq, List.append_assoc] at h1
              have h2 := List.append_cancel_left h1
              exact (List.cons.inj h2).1
            subst hqr
            refine .inl ⟨by rw [HPO.out, HAS.out, hq, enc_len_append]; have := enc_len_pos q qs; omega, ?_, .inl ⟨qs, by rw [hq]; simp, by rw [hcw, wids_append, wids_cons]; simp [wids]⟩⟩
            rw [hcw, ← HB'.out]; exact hb2
        · refine .inr (.inr ⟨by rw [HPO.out, HAS.out, hq, enc_len_append]; have := enc_len_pos q qs; omega, .inr ⟨q, qs ++ [r], by rw [hq]; simp, hcw⟩⟩)
      clear hdec he1 hm0 HC HPT HPO HA' HB'
      generalize wr.iterAt w4.heap.size s (po + (encR r).length) = w5 at *
      have hmeas : Hid (s.size - w5.iterPos w4.heap.size < s.size - wr.iterPos w4.heap.size) := by
        have hh : w5.iterPos w4.heap.size = po + (encR r).length := by simp only [World.iterPos, hit2]
        unfold Hid; rw [hh, HM.out]; omega
      obtain ⟨x, hx⟩ : ∃ x, wid r = x := ⟨_, rfl⟩
      rw [hx] at hb2 hbp2 hcase h12
      have hxc : (r < 4352 ∧ x = 1) ∨ (4352 ≤ r ∧ x = 2) := by unfold wid at hx; split at hx <;> omega
      clear hx h12
      rcases hxc with ⟨hr1, rfl⟩ | ⟨hr1, rfl⟩ <;> rcases hcase with ⟨h1, h2, h3⟩ | ⟨h1, h2, h2', h3⟩ | ⟨h1, h3⟩
      · have hne : ((po : Int) == (A.size : Int)) = false := beq_eq_false_iff_ne.2 (by omega)
        go_wp2
        go_roundw
        case rel => exact ⟨ps ++ [r], ts, a + 1, b + 1, c + 1, po + (encR r).length, hpt2, by go_num, by go_num, by go_num, hap2, hbp2, ha2, hb2, h2, hpo2, HBW2, hit2, h3⟩
        case measure => exact hmeas.out
      · go_wp2
        go_roundw
        case rel => exact ⟨ps ++ [r], ts, a + 1, b + 1, c, po + (encR r).length, hpt2, by go_num, by go_num, rfl, hap2, hbp2, ha2, hb2, hc48, hpo2, HBW2, hit2, h3⟩
        case measure => exact hmeas.out
      · have hne : ((po : Int) == (A.size : Int)) = false := beq_eq_false_iff_ne.2 (by omega)
        go_wp2
        go_roundw
        case rel => exact ⟨ps ++ [r], ts, a + 1, b + 1, c, po + (encR r).length, hpt2, by go_num, by go_num, rfl, hap2, hbp2, ha2, hb2, hc48, hpo2, HBW2, hit2, h3⟩
        case measure => exact hmeas.out
      · have hne : ((po : Int) == (A.size : Int)) = false := beq_eq_false_iff_ne.2 (by omega)
        go_wp2
        go_roundw
        case rel => exact ⟨ps ++ [r], ts, a + 1, b + 2, c + 2, po + (encR r).length, hpt2, by go_num, by go_num, by go_num, hap2, hbp2, ha2, hb2, h2, hpo2, HBW2, hit2, h3⟩
        case measure => exact hmeas.out
      · go_wp2
        go_roundw
        case rel => exact ⟨ps ++ [r], ts, a + 1, b + 2, c, po + (encR r).length, hpt2, by go_num, by go_num, rfl, hap2, hbp2, ha2, hb2, hc48, hpo2, HBW2, hit2, h3⟩
        case measure => exact hmeas.out
      · have hne : ((po : Int) == (A.size : Int)) = false := beq_eq_false_iff_ne.2 (by omega)
        go_wp2
        go_roundw
        case rel => exact ⟨ps ++ [r], ts, a + 1, b + 2, c, po + (encR r).length, hpt2, by go_num, by go_num, rfl, hap2, hbp2, ha2, hb2, hc48, hpo2, HBW2, hit2, h3⟩
        case measure => exact hmeas.out
end Go.Proofs.YtmgkdklpahggjaaDoor
