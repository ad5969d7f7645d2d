/- The walk of the statement AnswerJoins: it returns true for all letters. -/
import Derived.Test.YtllfmancfkmimaaDoorAp
namespace Go.Proofs.YtllfmancfkmimaaDoor
open Go.RowKit

theorem pE_text {A : List Int} (h : Ans A) (hl : A.length ≤ 2000) : pE (text A) = 0 := pE_ok (by rw [text_length]; exact hl) (good_text h)
theorem pL_text {A : List Int} (h : Ans A) (hl : A.length ≤ 2000) : pL (text A) = A := by rw [pL_ok (pE_text h hl), nums_text h]

set_option maxRecDepth 100000 in
set_option maxHeartbeats 8000000 in
theorem aJoi_core (a a' : Option Addr) (n n' c c' : Nat) (l m : List Int) (w : World) (hl : l.length ≤ 1000) (hm : m.length ≤ 1000) (hu : U8 w a n c l) (hv : U8 w a' n' c' m) (he : Env w) :
    Calls Tryd.prog 8 #[.slice a n c, .slice a' n' c'] w fun e w' => e = .returned (.bool true) ∧ Below w.heap.size w w' := by
  obtain rfl := hu.len
  obtain rfl := hv.len
  obtain ⟨i0, hi, hz0, hz1, hz2⟩ := info_parts info_int
  have HE := Lib.hid he
  have HU := Lib.hid hu
  have HV := Lib.hid hv
  obtain ⟨A, hA⟩ : ∃ A, ans_ l = A := ⟨_, rfl⟩
  obtain ⟨B, hB⟩ : ∃ B, ans_ m = B := ⟨_, rfl⟩
  have hAl : A.length = l.length := by rw [← hA, ans_length]
  have hBl : B.length = m.length := by rw [← hB, ans_length]
  have HAA : Hid (Ans A) := by rw [← hA]; exact ans_ok l
  have HBA : Hid (Ans B) := by rw [← hB]; exact ans_ok m
  obtain ⟨sl, hsl0⟩ : ∃ sl, str (text A) = sl := ⟨_, rfl⟩
  obtain ⟨sm, hsm0⟩ : ∃ sm, str (text B) = sm := ⟨_, rfl⟩
  have HSL := Lib.hid hsl0
  have HSM := Lib.hid hsm0
  have HLA : Hid (str (text (ans_ l)) = sl) := by rw [hA]; exact hsl0
  have HLB : Hid (str (text (ans_ m)) = sm) := by rw [hB]; exact hsm0
  have hzl : sl.size ≤ 1000 := by rw [← hsl0, str_size, text_length]; omega
  have hzm : sm.size ≤ 1000 := by rw [← hsm0, str_size, text_length]; omega
  have HDL : Hid (sl.data.toList = text A) := by rw [← hsl0]; rfl
  have HDM : Hid (sm.data.toList = text B) := by rw [← hsm0]; rfl
  have HDS : Hid ((sl ++ sm).data.toList = text (A ++ B)) := by rw [← hsl0, ← hsm0, str_append, text_append]; rfl
  have HSS : Hid (str (text (A ++ B)) = sl ++ sm) := by rw [← hsl0, ← hsm0, str_append, text_append]; rfl
  have hAm : A.length ≤ 1000 := by omega
  have hBm : B.length ≤ 1000 := by omega
  have HAl := Lib.hid hAl
  have HBl := Lib.hid hBl
  clear he hu hv hsl0 hsm0 hA hB hAl hBl
  have hABl : (A ++ B).length = A.length + B.length := List.length_append
  have HABl := Lib.hid hABl
  have HAB : Hid (Ans (A ++ B)) := ans_append.2 ⟨HAA.out, HBA.out⟩
  have HPE : Hid (pE (text (A ++ B)) = 0) := pE_text HAB.out (by omega)
  have HPL : Hid (pL (text (A ++ B)) = A ++ B) := pL_text HAB.out (by omega)
  have HWE : Hid (wE (A ++ B) = 0) := wE_ok (by omega) HAB.out
  have HWT : Hid (str (wT (A ++ B)) = sl ++ sm) := by rw [wT_ok HWE.out]; exact HSS.out
  have HZS : Hid ((sl ++ sm).size ≤ 140737488351232) := by have : (sl ++ sm).size = sl.size + sm.size := ByteArray.size_append; unfold Hid; omega
  clear hABl
  go_enter Tryd.func8, Tryd.ntmps8
  go_wp2_with fail
  refine (let_str a _ c l _ HU.out (by omega) HLA.out).mono ?_
  rintro e w1 ⟨rfl, hb1⟩
  have HB1 := Lib.hid hb1
  clear hb1
  go_wp2_with fail
  refine (parse_to sl _ (HE.out.below HB1.out) (by omega) HDL.out (pL_text HAA.out (by omega)) (pE_text HAA.out (by omega))).mono ?_
  rintro e w2 ⟨a2, c2, rfl, hs2, hb2⟩
  have HB2 := Lib.hid (bel2 HB1.out hb2)
  have HS2 := Lib.hid hs2
  clear hb2 hs2 HB1
  go_wp2_with fail
  refine (let_str a' _ c' m _ (HV.out.below HB2.out) (by omega) HLB.out).mono ?_
  rintro e w3 ⟨rfl, hb3⟩
  have HB3 := Lib.hid (bel2 HB2.out hb3)
  have HS3 := Lib.hid (HS2.out.below hb3)
  clear hb3 HS2 HB2
  go_wp2_with fail
  refine (parse_to sm _ (HE.out.below HB3.out) (by omega) HDM.out (pL_text HBA.out (by omega)) (pE_text HBA.out (by omega))).mono ?_
  rintro e w4 ⟨a4, c4, rfl, hs4, hb4⟩
  have HB4 := Lib.hid (bel2 HB3.out hb4)
  have HS4 := Lib.hid (HS3.out.below hb4)
  have HT4 := Lib.hid hs4
  clear hb4 hs4 HS3 HB3
  go_wp2_with fail
  refine (let_str a _ c l _ (HU.out.below HB4.out) (by omega) HLA.out).mono ?_
  rintro e w5 ⟨rfl, hb5⟩
  have HB5 := Lib.hid (bel2 HB4.out hb5)
  have HS5 := Lib.hid (HS4.out.below hb5)
  have HT5 := Lib.hid (HT4.out.below hb5)
  clear hb5 HS4 HT4 HB4
  go_wp2_with fail
  refine (let_str a' _ c' m _ (HV.out.below HB5.out) (by omega) HLB.out).mono ?_
  rintro e w6 ⟨rfl, hb6⟩
  have HB6 := Lib.hid (bel2 HB5.out hb6)
  have HS6 := Lib.hid (HS5.out.below hb6)
  have HT6 := Lib.hid (HT5.out.below hb6)
  clear hb6 HS5 HT5 HB5
  go_wp2_with fail
  refine (parse_to (sl ++ sm) _ (HE.out.below HB6.out) HZS.out HDS.out HPL.out HPE.out).mono ?_
  rintro e w7 ⟨a7, c7, rfl, hs7, hb7⟩
  have HB7 := Lib.hid (bel2 HB6.out hb7)
  have HS7 := Lib.hid (HS6.out.below hb7)
  have HT7 := Lib.hid (HT6.out.below hb7)
  have HC7 := Lib.hid hs7
  clear hb7 hs7 HS6 HT6 HB6
  rw [HABl.out]
  go_wp2
  go_loopw [11] (fun i wr => ∃ k : Nat, k ≤ A.length + B.length ∧ i = .int .i64 k ∧ Hid (∃ q, wr = w7.drewN q)) (fun i _ => A.length + B.length - (intOf i).toNat)
  case atStart => exact ⟨0, Nat.zero_le _, rfl, 0, rfl⟩
  case round =>
    obtain ⟨k, hk, rfl, HQ⟩ := hrel
    have HBQ : Hid (Below w7.heap.size w7 wr) := by obtain ⟨q, rfl⟩ := HQ.out; exact bel_drewN (Below.refl _ w7) q
    by_cases hlt : k < A.length + B.length
    · have hc7 := HC7.out
      rw [HABl.out] at hc7
      obtain ⟨g7, o7, e7, hg7, hcell7, _⟩ := (hc7.below HBQ.out).cell (j := k) (by rw [HABl.out]; exact hlt)
      by_cases hka : k < A.length
      · obtain ⟨g2, o2, e2, hg2, hcell2, _⟩ := (HS7.out.below HBQ.out).cell (j := k) hka
        have hx : (A ++ B)[k]'(by rw [HABl.out]; exact hlt) = A[k] := List.getElem_append_left hka
        rw [hx] at hcell7
        generalize A[k] = x at *
        subst e7 e2
        have hxx : (x != x) = false := by simp
        have hd : decide ((A.length : Int) ≤ (k : Int)) = false := decide_eq_false (by omega)
        have hdn : decide (A.length ≤ k) = false := decide_eq_false (by omega)
        clear hx hc7
        go_wp2
        go_quiet (fail)
        go_wp2
        go_roundw
        case rel => exact ⟨k + 1, by omega, by go_num, by obtain ⟨q, rfl⟩ := HQ.out; exact ⟨_, World.drewN_drewN _ _ _⟩⟩
        case measure => simp [intOf]; omega
      · obtain ⟨g4, o4, e4, hg4, hcell4, _⟩ := (HT7.out.below HBQ.out).cell (j := k - A.length) (by omega)
        have hx : (A ++ B)[k]'(by rw [HABl.out]; exact hlt) = B[k - A.length]'(by omega) := List.getElem_append_right (by omega)
        rw [hx] at hcell7
        generalize B[k - A.length] = x at *
        subst e7 e4
        have hxx : (x != x) = false := by simp
        obtain ⟨j, hj⟩ : ∃ j, k = A.length + j := ⟨k - A.length, by omega⟩
        subst hj
        have hjj : A.length + j - A.length = j := by omega
        rw [hjj] at hcell4
        have hjlt : j < B.length := by omega
        have hd : decide ((A.length : Int) + (j : Int) < (A.length : Int)) = false := decide_eq_false (by omega)
        have hdn : decide (A.length + j < A.length) = false := decide_eq_false (by omega)
        have hd2 : decide ((A.length : Int) ≤ (A.length : Int) + (j : Int)) = true := decide_eq_true (by omega)
        have hdn2 : decide (A.length ≤ A.length + j) = true := decide_eq_true (by omega)
        have hsub : (A.length : Int) + (j : Int) - (A.length : Int) = (j : Int) := by omega
        clear hx hc7 hjj
        go_wp2
        go_quiet (fail)
        go_wp2
        go_roundw
        case rel => exact ⟨A.length + j + 1, by omega, by go_num, by obtain ⟨q, rfl⟩ := HQ.out; exact ⟨_, World.drewN_drewN _ _ _⟩⟩
        case measure => simp [intOf]; omega
    · obtain rfl : k = A.length + B.length := by omega
      have HBW8 := Lib.hid (bel2 HB7.out HBQ.out)
      have HS8 := Lib.hid (HS7.out.below HBQ.out)
      have HT8 := Lib.hid (HT7.out.below HBQ.out)
      have HO := Lib.hid (own_empty wr)
      have HBN : Hid (Below wr.heap.size wr (wr.alloc (.cells #[] 3))) := (Below.refl _ wr).alloc (Nat.le_refl _) _
      clear hlt HQ HBQ
      go_wp2_with (at_builtin; refine wpList_append_sl rfl _ _ rfl wr.heap.size _ 0 [] rfl HO.out _ A rfl (HS8.out.below HBN.out) (by omega) (by simp) ?_)
      intro u1 w9 hown1 hgrow1
      have hb9 := HBN.out.grown hgrow1 (by simp) (fun k hk => own_lt HO.out k hk)
      have HO1 := Lib.hid hown1
      have HB9 := Lib.hid hb9
      clear hown1 hgrow1 hb9
      go_wp2_with (at_builtin; refine wpList_append_sl rfl _ _ rfl wr.heap.size _ _ _ rfl HO1.out _ B rfl (HT8.out.below HB9.out) (by omega) HB9.out.size ?_)
      intro u w10 hown2 hgrow2
      have hb10 := HB9.out.grown hgrow2 HB9.out.size (fun k hk => own_lt HO1.out k hk)
      have hown : w10.ownsRow wr.heap.size 3 1 u (A ++ B).length (ints (A ++ B)) := by simpa [ints] using hown2
      have hs10 := Sl.of_own hown
      obtain ⟨a10, c10, rfl, hs10'⟩ := hs10.len
      rw [HABl.out] at hs10' ⊢
      have HC10 := Lib.hid hs10'
      have HB10 := Lib.hid (bel2 HBW8.out hb10)
      clear hown2 hgrow2 hb10 hown hs10 hs10'
      go_wp2_with fail
      refine (print_str _ _ _ _ (HE.out.below HB10.out) (Rd.of_sl HC10.out) HWT.out HWE.out).mono ?_
      rintro e w11 ⟨rfl, hb11⟩
      have HB11 := Lib.hid (bel2 HB10.out hb11)
      clear hb11
      go_wp2_with fail
      refine (let_str a _ c l _ (HU.out.below HB11.out) (by omega) HLA.out).mono ?_
      rintro e w12 ⟨rfl, hb12⟩
      have HB12 := Lib.hid (bel2 HB11.out hb12)
      clear hb12
      go_wp2_with fail
      refine (let_str a' _ c' m _ (HV.out.below HB12.out) (by omega) HLB.out).mono ?_
      rintro e w13 ⟨rfl, hb13⟩
      have HB13 := Lib.hid (bel2 HB12.out hb13)
      have hss := eq_self (sl ++ sm)
      clear hb13
      go_wp2_with fail
      refine (works_ok _ (HE.out.below HB13.out)).mono ?_
      rintro e w14 ⟨rfl, hb14⟩
      go_wp2
      go_ret
      exact ⟨rfl, bel2 HB13.out hb14⟩
set_option maxRecDepth 100000 in
theorem aJoi_long (a a' : Option Addr) (n n' c c' : Nat) (w : World) (hl : 1000 < n ∨ n ≤ 1000 ∧ 1000 < n') (he : Env w) :
    Calls Tryd.prog 8 #[.slice a n c, .slice a' n' c'] w fun e w' => e = .returned (.bool true) ∧ Below w.heap.size w w' := by
  have HE := Lib.hid he
  clear he
  rcases hl with hl | ⟨h1, hl⟩
  all_goals
    go_enter Tryd.func8, Tryd.ntmps8
    go_wp2_with fail
    refine (works_ok _ HE.out).mono ?_
    rintro e w3 ⟨rfl, hb3⟩
    go_wp2
    go_ret
    exact ⟨rfl, hb3⟩
theorem aJoi_walk (a : Option Addr) (n c : Nat) (l : List Int) (a' : Option Addr) (n' c' : Nat) (m : List Int) (w : World) (hu : U8 w a n c l) (hv : U8 w a' n' c' m) (he : Env w) :
    Calls Tryd.prog 8 #[.slice a n c, .slice a' n' c'] w fun e w' => e = .returned (.bool true) ∧ Below w.heap.size w w' := by
  have h1 := hu.len
  have h2 := hv.len
  by_cases h3 : l.length ≤ 1000
  · by_cases h4 : m.length ≤ 1000
    · exact aJoi_core a a' n n' c c' l m w h3 h4 hu hv he
    · exact aJoi_long a a' n n' c c' w (.inr ⟨by omega, by omega⟩) he
  · exact aJoi_long a a' n n' c c' w (.inl (by omega)) he
end Go.Proofs.YtllfmancfkmimaaDoor
