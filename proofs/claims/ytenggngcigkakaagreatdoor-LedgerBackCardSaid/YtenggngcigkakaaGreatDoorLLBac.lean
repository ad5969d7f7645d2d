/- LedgerBack gives true: the walk. -/
import Derived.Test.YtenggngcigkakaaGreatDoorIi
namespace Go.Proofs.YtenggngcigkakaaGreatDoor
open Go.RowKit

theorem count_none {x : List UInt8} (h : ∀ b ∈ x, b ≠ 10) : Lib.countByte x 10 = 0 := List.count_eq_zero.2 fun hm => h 10 hm rfl
theorem count_lines (l : List Att) : Lib.countByte (lines l) 10 = l.length := by
  induction l with
  | nil => rfl
  | cons a l ih =>
    have h0 : Lib.countByte (aText a) 10 = 0 := count_none (aText_ne (by decide) a)
    unfold Lib.countByte at *
    rw [lines_cons, List.count_append, List.count_cons, h0, ih]
    simp
theorem count_prel {l : List UInt8} {ys : List Att} {r : List UInt8} (h : PRel l ys r) : ys.length ≤ Lib.countByte l 10 := by
  have := count_lines ys
  rw [h.eq]
  unfold Lib.countByte at *
  rw [List.count_append]
  omega
theorem count_str (l : List UInt8) (w : World) : Calls Tryz.prog 40 #[.string (bstr l), .string ⟨#[10]⟩] w fun e w' => e = .returned (.int .i64 (Lib.countByte l 10)) ∧ w = w' := by
  refine (Tryz.strings_Count_one (bstr l) 10 w).mono ?_
  rintro e w' ⟨rfl, rfl⟩
  exact ⟨rfl, rfl⟩
set_option maxRecDepth 100000 in
set_option maxHeartbeats 8000000 in
theorem lBac_back (a : Option Addr) (n c : Nat) (l : List Ent) (s : List UInt8) (w : World) (hl : RdE w (.slice a n c) l) (he : EnvL w) :
    Calls Tryz.prog 7 #[.slice a n c, .string (bstr s)] w fun e w' => e = .returned (.bool true) ∧ Below w.heap.size w w' := by
  have HE := Lib.hid he
  have HL := Lib.hid hl
  have HRG : Hid (∀ x ∈ l, x.Rg) := by obtain ⟨_, _, _, _, _, h, _⟩ := hl; exact h
  have HST : Hid (Steady (entL 0 (l.take 100))) := entL_steady _ (fun x hx => HRG.out x (List.mem_of_mem_take hx)) 0 (by rw [List.length_take]; omega) (by rw [List.length_take]; omega)
  have HLN : Hid ((entL 0 (l.take 100)).length ≤ 100) := by rw [Hid, entL_length, List.length_take]; omega
  clear he hl HRG
  have HA : Hid (∀ W, RdE W (.slice a n c) l → Calls Tryz.prog 39 #[.slice a n c] W (NewA (entL 0 (l.take 100)) W)) := fun W h => atts_ok a n c l W h
  generalize entL 0 (l.take 100) = L at *
  obtain ⟨N, hN⟩ : ∃ N, L.length = N := ⟨_, rfl⟩
  have HN := Lib.hid hN
  have hN100 : N ≤ 100 := by have := HLN.out; omega
  have HSZ := lines_size HST.out.ok
  have HPR : Hid (∀ W (q : Option Addr) (m k : Nat), RdA W (.slice q m k) L → EnvL W → Calls Tryz.prog 35 #[.slice q m k] W (TextV (lines L) 0 W)) := fun W q m k hr he => by
    have h := lprint_ok q m k L W hr HST.out.ok he
    rw [if_pos (by omega), if_pos (by omega)] at h
    exact h
  have HPA : Hid (∀ W, EnvL W → Calls Tryz.prog 37 #[.string (bstr (lines L))] W fun e w' => ∃ p c, e = .returned (.tuple #[.slice p N c, .int .i64 0, .int .i64 0]) ∧ RdA w' (.slice p N c) L ∧ Below W.heap.size W w') := fun W he => by
    refine (lparse_ok (lines L) (by omega) W he).mono ?_
    rintro e w' ⟨ys, r, hP, hB, h⟩
    obtain ⟨rfl, rfl⟩ := hP.uniq (prel_lines HST.out.ok)
    rcases h with ⟨_, v, rfl, ho⟩ | ⟨h, _⟩
    · obtain ⟨p, c, rfl⟩ := rd_slice (RdA.of_own ho)
      have hr := RdA.of_own ho
      rw [HN.out] at hr ⊢
      exact ⟨p, c, rfl, hr, hB⟩
    · exact absurd rfl h
  have HCN : Hid (Lib.countByte (lines L) 10 = N) := by rw [Hid, count_lines, HN.out]
  have HB0 := Lib.hid (Below.refl w.heap.size w)
  obtain ⟨LT, hLT⟩ : ∃ LT, bstr (lines L) = LT := ⟨_, rfl⟩
  have HCT : Hid (∀ W, Calls Tryz.prog 40 #[.string LT, .string ⟨#[10]⟩] W fun e w' => e = .returned (.int .i64 N) ∧ W = w') := fun W => by
    rw [← hLT, ← HCN.out]; exact count_str _ W
  have HPR2 : Hid (∀ W (q : Option Addr) (m k : Nat), RdA W (.slice q m k) L → EnvL W → Calls Tryz.prog 35 #[.slice q m k] W fun e w' => e = .returned (.tuple #[.string LT, .int .i64 0]) ∧ Below W.heap.size W w') := fun W q m k hr he => by
    have := HPR.out W q m k hr he
    unfold TextV at this
    rw [hLT] at this
    exact this
  rw [hLT] at HPA
  clear hN HSZ HPR HCN hLT
  obtain ⟨S, hS⟩ : ∃ S, bstr s = S := ⟨_, rfl⟩
  have HS := Lib.hid hS
  have hSS : S.size = s.length := by rw [← hS, bstr_size]
  rw [hS]
  obtain ⟨Z, hZ⟩ : ∃ Z, S.size = Z := ⟨_, rfl⟩
  have HZ := Lib.hid (hSS.symm.trans hZ)
  clear hS hSS
  go_enter Tryz.func7, Tryz.ntmps7
  go_wp2_with fail
  refine (HA.out _ HL.out).mono ?_
  rintro e w1 ⟨v, rfl, ho, hb1⟩
  obtain ⟨p, c1, rfl⟩ : ∃ p c1, v = .slice p N c1 := by have := rd_slice (RdA.of_own ho); rw [HN.out] at this; exact this
  have HB1 := Lib.hid (bel2 HB0.out hb1)
  have HR1 := Lib.hid (RdA.of_own ho)
  clear ho hb1 HB0 HL HA
  go_wp2_with fail
  refine (HPR2.out _ _ _ _ HR1.out (HE.out.below HB1.out)).mono ?_
  rintro e w2 ⟨rfl, hb2⟩
  have HB2 := Lib.hid (bel2 HB1.out hb2)
  have HR2 := Lib.hid (HR1.out.below hb2)
  clear hb2 HB1 HR1
  go_wp2_with fail
  refine (HPA.out _ (HE.out.below HB2.out)).mono ?_
  rintro e w3 ⟨p3, c3, rfl, hr3, hb3⟩
  have HB3 := Lib.hid (bel2 HB2.out hb3)
  have HR3 := Lib.hid (HR2.out.below hb3)
  have HQ3 := Lib.hid hr3
  clear hb3 hr3 HB2 HR2
  go_wp2_with fail
  refine (equal_yes _ _ _ _ _ _ L _ HQ3.out HR3.out).mono ?_
  rintro e w4 ⟨rfl, hb4⟩
  have HB4 := Lib.hid (bel2 HB3.out hb4)
  clear hb4 HB3 HR3 HQ3
  go_wp2_with fail
  refine (HCT.out _).mono ?_
  rintro e w' ⟨rfl, rfl⟩
  by_cases hlong : 300 < Z
  · go_wp2_with fail
    refine (works_ok _ (HE.out.below HB4.out)).mono ?_
    rintro e w5 ⟨rfl, hb5⟩
    have HB5 := Lib.hid (bel2 HB4.out hb5)
    clear hb5
    go_wp2
    go_ret
    exact ⟨rfl, HB5.out⟩
  · have HSL : Hid (s.length ≤ 300) := by rw [Hid, HZ.out]; omega
    have HPS : Hid (∀ W, EnvL W → Calls Tryz.prog 37 #[.string S] W (ParseV s W)) := fun W he => by
      rw [← HS.out]; exact lparse_ok s (Nat.le_trans HSL.out (by decide)) W he
    go_wp2_with fail
    refine (HPS.out _ (HE.out.below HB4.out)).mono ?_
    rintro e w5 ⟨ys, r, hP, hb5, hcase⟩
    have HB5 := Lib.hid (bel2 HB4.out hb5)
    have HP := Lib.hid hP
    clear hb5 HB4
    clear hP
    rcases hcase with ⟨rfl, v5, rfl, ho5⟩ | ⟨hne, rfl⟩
    · have HLS : Hid (s = lines ys) := by have h := HP.out.eq; rw [List.append_nil] at h; exact h
      obtain ⟨M, hM⟩ : ∃ M, ys.length = M := ⟨_, rfl⟩
      have HM := Lib.hid hM
      obtain ⟨p5, c5, rfl⟩ : ∃ p c1, v5 = .slice p M c1 := by have := rd_slice (RdA.of_own ho5); rw [HM.out] at this; exact this
      have HR5 := Lib.hid (RdA.of_own ho5)
      have hM300 : M ≤ 300 := by
        have h1 := (lines_size HP.out.ok).1
        have h2 := HSL.out
        rw [HLS.out] at h2
        omega
      have hcap5 := HR5.out.cap.2.1
      rw [hM] at hcap5
      clear hM ho5
      have HPT : Hid (∀ W (q : Option Addr) (m k : Nat), RdA W (.slice q m k) ys → EnvL W → Calls Tryz.prog 35 #[.slice q m k] W fun e w' => e = .returned (.tuple #[.string S, .int .i64 0]) ∧ Below W.heap.size W w') := fun W q m k hr he => by
        have h := lprint_ok q m k ys W hr HP.out.ok he
        have h2 := HSL.out
        rw [HLS.out] at h2
        rw [if_pos (by omega), if_pos (by omega)] at h
        unfold TextV at h
        rw [← HLS.out, HS.out] at h
        exact h
      go_wp2_with fail
      refine (HPT.out _ _ _ _ HR5.out (HE.out.below HB5.out)).mono ?_
      rintro e w6 ⟨rfl, hb6⟩
      have HB6 := Lib.hid (bel2 HB5.out hb6)
      have HR6 := Lib.hid (HR5.out.below hb6)
      clear hb6 HB5 HR5
      go_wp2
      go_loopw [93] (fun i wr => ∃ j : Nat, j ≤ M ∧ i = .int .i64 j ∧ Hid (Below w6.heap.size w6 wr)) (fun i _ => M - (intOf i).toNat)
      case atStart => exact ⟨0, Nat.zero_le _, rfl, Below.refl _ _⟩
      case round =>
        obtain ⟨j, hj, rfl, HB⟩ := hrel
        by_cases hlt : j < M
        · have hlt2 : j < ys.length := by rw [HM.out]; exact hlt
          obtain ⟨gl, off, rfl, hgl, hsix⟩ := (HR6.out.below HB.out).cell hlt2
          have HXO := Lib.hid (HP.out.ok _ (List.getElem_mem hlt2))
          generalize ys[j] = x at *
          obtain ⟨k0, k1, k2, k3, k4, k5⟩ := hsix
          have hW3 := bel_new wr (.cells #[.int .i64 x.t, .int .i64 x.k, .int .i64 x.i, .int .u32 x.g, .int .i64 x.y, .int .i64 x.n] 32)
          have hbx : Bk (wr.alloc (.cells #[.int .i64 x.t, .int .i64 x.k, .int .i64 x.i, .int .u32 x.g, .int .i64 x.y, .int .i64 x.n] 32)) wr.heap.size 32 x.cl.toArray := Bk.new wr _ _
          obtain ⟨d0, d1, d2, d3, d4, d5⟩ := six_new hbx
          simp only [Nat.zero_add] at d0 d1 d2 d3 d4 d5
          have HBW := Lib.hid (bel2 HB.out hW3)
          clear hW3 hbx hlt2
          go_wp2_with fail
          generalize wr.alloc (.cells #[.int .i64 x.t, .int .i64 x.k, .int .i64 x.i, .int .u32 x.g, .int .i64 x.y, .int .i64 x.n] 32) = W3 at *
          clear k0 k1 k2 k3 k4 k5
          refine (chk_att x HXO.out.rg _ (HE.out.below (bel2 HB6.out HBW.out))).mono ?_
          rintro e w8 ⟨rfl, hb8⟩
          rw [chkE_ok HXO.out]
          have HB8 := Lib.hid (bel2 HBW.out hb8)
          clear hb8 d0 d1 d2 d3 d4 d5
          go_wp2
          go_roundw
          case rel => exact ⟨j + 1, by omega, by go_num, HB8.out⟩
          case measure => simp [intOf]; omega
        · obtain rfl : j = M := by omega
          clear hlt
          have HB7 := Lib.hid (bel2 HB6.out HB.out)
          go_wp2_with fail
          refine (works_ok _ (HE.out.below HB7.out)).mono ?_
          rintro e w9 ⟨rfl, hb9⟩
          have HB9 := Lib.hid (bel2 HB7.out hb9)
          clear hb9
          go_wp2
          go_ret
          exact ⟨rfl, HB9.out⟩
    · obtain ⟨M, hM⟩ : ∃ M, ys.length = M := ⟨_, rfl⟩
      obtain ⟨CN, hCN⟩ : ∃ CN, Lib.countByte s 10 = CN := ⟨_, rfl⟩
      have h1 : M ≤ CN := by rw [← hM, ← hCN]; exact count_prel HP.out
      have h2 : CN ≤ 300 := by rw [← hCN]; exact Nat.le_trans (by unfold Lib.countByte; exact List.count_le_length) HSL.out
      have HCS : Hid (∀ W, Calls Tryz.prog 40 #[.string S, .string ⟨#[10]⟩] W fun e w' => e = .returned (.int .i64 CN) ∧ W = w') := fun W => by
        rw [← HS.out, ← hCN]; exact count_str _ W
      rw [hM]
      clear hM hCN
      have h3 : (M : Int) + 1 ≤ 1 + (CN : Int) := by omega
      have h4 : (1 : Int) ≤ (M : Int) + 1 := by omega
      go_wp2_with fail
      refine (HCS.out _).mono ?_
      rintro e w' ⟨rfl, rfl⟩
      go_wp2_with fail
      refine (works_ok _ (HE.out.below HB5.out)).mono ?_
      rintro e w9 ⟨rfl, hb9⟩
      have HB9 := Lib.hid (bel2 HB5.out hb9)
      clear hb9
      go_wp2
      go_ret
      exact ⟨rfl, HB9.out⟩
theorem lBac_walk (a : Option Addr) (n c : Nat) (l : List Ent) (s : ByteArray) (w : World) (hl : RdE w (.slice a n c) l) (_ : s.size ≤ 140737488351232) (he : EnvL w) :
    Calls Tryz.prog 7 #[.slice a n c, .string s] w fun e w' => e = .returned (.bool true) ∧ Below w.heap.size w w' := by
  have := lBac_back a n c l s.data.toList w hl he
  rw [bstr_of] at this
  exact this
end Go.Proofs.YtenggngcigkakaaGreatDoor
