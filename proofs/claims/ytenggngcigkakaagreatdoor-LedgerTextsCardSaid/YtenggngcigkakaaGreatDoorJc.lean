/- The document's side: Print. -/
import Derived.Test.YtenggngcigkakaaGreatDoorJb
namespace Go.Proofs.YtenggngcigkakaaGreatDoor
open Go.RowKit Go.ChangeShapes

set_option maxRecDepth 100000 in
set_option maxHeartbeats 4000000 in
theorem rprint_bad (a : Option Addr) (n c : Nat) (l : List Att) (w : World) (hr : RdA w (.slice a n c) l) (hg : AllRg l) (h : ¬ AllOk l) : Calls Tryz.prog 36 #[.slice a n c] w (TextV [] 2 w) := by
  have HG := Lib.hid hg
  have HNO := Lib.hid h
  obtain ⟨rfl, hcap, hcm, _⟩ := hr.cap
  have HR := Lib.hid hr
  clear hr hg h
  go_enter Tryz.func36, Tryz.ntmps36
  go_wp2
  go_loopw [4] (fun i wr => ∃ j : Nat, j ≤ l.length ∧ i = .int .i64 j ∧ Hid (AllOk (l.take j)) ∧ Hid (Below w.heap.size w wr)) (fun i _ => l.length - (intOf i).toNat)
  case atStart => exact ⟨0, Nat.zero_le _, rfl, allOk_nil, Below.refl _ _⟩
  case round =>
    obtain ⟨j, hj, rfl, HO, HB⟩ := hrel
    by_cases hlt : j < l.length
    · obtain ⟨gl, off, rfl, hgl, hsix⟩ := (HR.out.below HB.out).cell hlt
      have HXR := Lib.hid (HG.out _ (List.getElem_mem hlt))
      have HS1 := Lib.hid (List.take_succ_eq_append_getElem hlt)
      generalize l[j] = x at *
      obtain ⟨c0, c1, c2, c3, c4, c5⟩ := hsix
      have HC := Lib.hid (rchk_att x HXR.out wr)
      unfold ChkV at HC
      by_cases hx : x.Ok
      · have HX := Lib.hid hx
        rw [chkE_ok hx] at HC
        clear hx
        go_wp2_with fail
        refine HC.out.mono ?_
        rintro e w3 ⟨rfl, hb3⟩
        have HB3 := Lib.hid (bel2 HB.out hb3)
        clear hb3 c0 c1 c2 c3 c4 c5 HC
        go_wp2
        go_roundw
        case rel => exact ⟨j + 1, by omega, by go_num, by rw [Hid, HS1.out, allOk_append]; exact ⟨HO.out, fun y hy => by obtain rfl := List.mem_singleton.1 hy; exact HX.out⟩, HB3.out⟩
        case measure => simp [intOf]; omega
      · rw [chkE_bad hx] at HC
        clear hx
        go_wp2_with fail
        refine HC.out.mono ?_
        rintro e w3 ⟨rfl, hb3⟩
        have HB3 := Lib.hid (bel2 HB.out hb3)
        clear hb3 c0 c1 c2 c3 c4 c5 HC
        go_wp2
        go_ret2
        exact ⟨rfl, HB3.out⟩
    · obtain rfl : j = l.length := by omega
      exact absurd (by have := HO.out; rwa [List.take_length] at this) HNO.out
theorem bstr_line (l : List Att) (j : Nat) (h : j < l.length) : bstr (lines (l.take j)) ++ bstr (aText l[j]) ++ ⟨#[10]⟩ = bstr (lines (l.take (j + 1))) := by
  rw [lines_snoc l j h, show (⟨#[10]⟩ : ByteArray) = bstr [10] from rfl, bstr_append, bstr_append, List.append_assoc]
theorem lines_pre (l : List Att) (j : Nat) : (lines (l.take j)).length ≤ (lines l).length := by
  have h := List.take_append_drop j l
  rw [show lines l = lines (l.take j ++ l.drop j) by rw [h], lines_append, List.length_append]
  omega
set_option maxRecDepth 100000 in
set_option maxHeartbeats 4000000 in
theorem rprint_ok (a : Option Addr) (n c : Nat) (l : List Att) (w : World) (hr : RdA w (.slice a n c) l) (h : AllOk l) : Calls Tryz.prog 36 #[.slice a n c] w (TextV (if (lines l).length ≤ 65536 then lines l else []) (if (lines l).length ≤ 65536 then 0 else 10) w) := by
  have HG := Lib.hid h.rg
  have HOK := Lib.hid h
  obtain ⟨rfl, hcap, hcm, _⟩ := hr.cap
  have HR := Lib.hid hr
  have HTE : Hid (((lines l).length ≤ 65536 → (if (lines l).length ≤ 65536 then lines l else []) = lines l ∧ (if (lines l).length ≤ 65536 then (0 : Int) else 10) = 0) ∧ (65536 < (lines l).length → (if (lines l).length ≤ 65536 then lines l else []) = [] ∧ (if (lines l).length ≤ 65536 then (0 : Int) else 10) = 10)) := ⟨fun h => ⟨if_pos h, if_pos h⟩, fun h => ⟨if_neg (by omega), if_neg (by omega)⟩⟩
  generalize (if (lines l).length ≤ 65536 then lines l else []) = T at *
  generalize (if (lines l).length ≤ 65536 then (0 : Int) else 10) = E at *
  clear hr h
  go_enter Tryz.func36, Tryz.ntmps36
  go_wp2
  go_loopw [4] (fun i wr => ∃ j : Nat, j ≤ l.length ∧ i = .int .i64 j ∧ Hid (Below w.heap.size w wr)) (fun i _ => l.length - (intOf i).toNat)
  case atStart => exact ⟨0, Nat.zero_le _, rfl, Below.refl _ _⟩
  case round =>
    obtain ⟨j, hj, rfl, HB⟩ := hrel
    by_cases hlt : j < l.length
    · obtain ⟨gl, off, rfl, hgl, hsix⟩ := (HR.out.below HB.out).cell hlt
      have HX := Lib.hid (HOK.out _ (List.getElem_mem hlt))
      generalize l[j] = x at *
      obtain ⟨c0, c1, c2, c3, c4, c5⟩ := hsix
      have HC := Lib.hid (rchk_att x HX.out.rg wr)
      unfold ChkV at HC
      rw [chkE_ok HX.out] at HC
      go_wp2_with fail
      refine HC.out.mono ?_
      rintro e w3 ⟨rfl, hb3⟩
      have HB3 := Lib.hid (bel2 HB.out hb3)
      clear hb3 c0 c1 c2 c3 c4 c5 HC
      go_wp2
      go_roundw
      case rel => exact ⟨j + 1, by omega, by go_num, HB3.out⟩
      case measure => simp [intOf]; omega
    · obtain rfl : j = l.length := by omega
      clear hlt
      go_wp2
      go_loopw [5, 6] (fun t i wr => ∃ (q : Nat) (S : ByteArray), q ≤ l.length ∧ i = .int .i64 q ∧ t = .string S ∧ S.size ≤ 65536 ∧ Hid (S = bstr (lines (l.take q))) ∧ Hid (Below w.heap.size w wr)) (fun _ i _ => l.length - (intOf i).toNat)
      case atStart => exact ⟨0, ⟨#[]⟩, Nat.zero_le _, rfl, rfl, Nat.zero_le _, rfl, HB⟩
      case round =>
        obtain ⟨q, S, hq, rfl, rfl, hS, HSL, HB2⟩ := hrel
        by_cases hlq : q < l.length
        · obtain ⟨gl, off, rfl, hgl, hsix⟩ := (HR.out.below HB2.out).cell hlq
          have HX := Lib.hid (HOK.out _ (List.getElem_mem hlq))
          have HBL := Lib.hid (bstr_line l q hlq)
          have hxl := (aText_size HX.out).2
          generalize l[q] = x at *
          obtain ⟨c0, c1, c2, c3, c4, c5⟩ := hsix
          have HLN := Lib.hid (rline_ok x HX.out wr)
          obtain ⟨X, hX⟩ : ∃ X, bstr (aText x) = X := ⟨_, rfl⟩
          have hXs : X.size ≤ 50 := by rw [← hX, bstr_size]; exact hxl
          rw [hX] at HLN
          rw [hX, ← HSL.out] at HBL
          obtain ⟨Y, hY⟩ : ∃ Y, S ++ X ++ ⟨#[10]⟩ = Y := ⟨_, rfl⟩
          have HYS : Hid (Y.size = S.size + X.size + 1) := by rw [Hid]; rw [← hY, ByteArray.size_append, ByteArray.size_append]; rfl
          have HY := Lib.hid hY
          rw [hY] at HBL
          have f1 : ¬ 9223372036854775807 < S.size + X.size := by omega
          have f2 : ¬ 9223372036854775807 < S.size + X.size + 1 := by omega
          clear hX hY hxl hgl
          by_cases hov : 65536 < S.size + X.size + 1
          · have hI : ((65536 : Int) < (S.size : Int) + (X.size : Int) + 1) = True := eq_true (by omega)
            have HOV := Lib.hid hov
            clear hov
            go_wp2_with fail
            refine HLN.out.mono ?_
            rintro e w3 ⟨rfl, hb3⟩
            have HB3 := Lib.hid (bel2 HB2.out hb3)
            clear hb3 c0 c1 c2 c3 c4 c5 HLN
            go_wp2
            go_ret2
            have hbig : 65536 < (lines l).length := by
              have h1 := lines_pre l (q + 1)
              have h2 : Y.size = (lines (l.take (q + 1))).length := by rw [HBL.out, bstr_size]
              have h5 := HOV.out
              have h6 := HYS.out
              omega
            obtain ⟨h3, h4⟩ := HTE.out.2 hbig
            subst h3 h4
            exact ⟨rfl, HB3.out⟩
          · have hI : ((65536 : Int) < (S.size : Int) + (X.size : Int) + 1) = False := eq_false (by omega)
            have HOV : Hid (Y.size ≤ 65536) := by have h6 := HYS.out; rw [Hid]; omega
            clear hov
            go_wp2_with fail
            refine HLN.out.mono ?_
            rintro e w3 ⟨rfl, hb3⟩
            have HB3 := Lib.hid (bel2 HB2.out hb3)
            clear hb3 c0 c1 c2 c3 c4 c5 HLN
            go_wp2
            rw [HY.out]
            go_roundw
            case rel => exact ⟨q + 1, Y, by omega, by go_num, rfl, HOV.out, HBL.out, HB3.out⟩
            case measure => simp [intOf]; omega
        · obtain rfl : q = l.length := by omega
          clear hlq
          have HFN : Hid (T = lines l ∧ E = 0) := by
            have h1 := HSL.out
            rw [List.take_length] at h1
            exact HTE.out.1 (by rw [← bstr_size, ← h1]; exact hS)
          go_wp2
          go_ret2
          obtain ⟨h3, h4⟩ := HFN.out
          rw [h3, h4]
          have h1 := HSL.out
          rw [List.take_length] at h1
          unfold TextV
          rw [← h1]
          exact ⟨rfl, HB2.out⟩
end Go.Proofs.YtenggngcigkakaaGreatDoor
