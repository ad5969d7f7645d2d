/- The walk of OuterTold. -/
import Derived.Test.YtpinmiplefidpaaGreatDoorOnt
import Derived.Deep.Cut
import Derived.Deep.CutRange
import Derived.Deep.RegionHeld3
namespace Go.Proofs.YtpinmiplefidpaaGreatDoor
open Go.RowKit

theorem mod3t (a : Int) (h0 : 0 ≤ a) : a.tmod 3 = 0 ∨ a.tmod 3 = 1 ∨ a.tmod 3 = 2 := by
  rw [Int.tmod_eq_emod_of_nonneg h0]; omega
/-- What a round of the first loop holds. -/
structure Txt (w0 w : World) (A : Ad) (U : Wd) (Q : Nat) (sl v : Value) (t : List UInt8) : Prop where
  s : WSt w0 w A U
  q : Bk w Q 73 #[sl]
  lo : w0.heap.size ≤ Q
  own : w.ownsRow w0.heap.size 5 1 v t.length (AN.bytes t)
theorem Txt.quiet {w0 w w' : World} {A : Ad} {U : Wd} {Q : Nat} {sl v : Value} {t : List UInt8} (h : Txt w0 w A U Q sl v t) (b : Below w.heap.size w w') : Txt w0 w' A U Q sl v t :=
  ⟨h.s.quiet b, h.q.below b, h.lo, own_below h.own b⟩
theorem Txt.grow {w0 w w' : World} {A : Ad} {U : Wd} {Q : Nat} {sl v v' : Value} {t t' : List UInt8} (h : Txt w0 w A U Q sl v t) (k : Kept (fun g => v.ownBlock = some g) w w') (own : w'.ownsRow w0.heap.size 5 1 v' t'.length (AN.bytes t')) : Txt w0 w' A U Q sl v' t' := by
  have hbk : ∀ g, v.ownBlock = some g → ∃ cur, Bk w g 5 cur := fun g hg => by
    rcases h.own.2 with ⟨rfl, _⟩ | ⟨g', cap, cur, rfl, _, h2, _⟩
    · cases hg
    · obtain rfl : g' = g := by simpa [Value.ownBlock] using hg
      exact ⟨cur, h2⟩
  obtain ⟨h1, h2⟩ := h.s.f.kept k fun g hg e => by
    obtain ⟨cur, hc⟩ := hbk g e
    exact h.s.f.off hc (by decide) hg
  exact ⟨⟨h1, h.s.bel.trans (k.below h.s.bel.size fun g e => (h.own.lt g e).1), fun g hg => h.s.lo g ((h2 g).1 hg)⟩, h.q.kept k (fun e => by
    obtain ⟨cur, hc⟩ := hbk Q e
    exact absurd (hc.uniq h.q).1 (by decide)), h.lo, own⟩
set_option maxRecDepth 100000 in
set_option maxHeartbeats 8000000 in
theorem told_main (a : Option Addr) (len cap : Nat) (B : Nat → Int) (a' : Option Addr) (len' cap' : Nat) (C : Nat → Bool) (w : World) (hl : len ≤ cap) (_hm : cap ≤ 9223372036854775807) (hu : Bys w a len B) (hl' : len' ≤ cap') (_hm' : cap' ≤ 9223372036854775807) (hu' : Bls w a' len' C) (he : OEnv w) (h100 : len ≤ 100) (h150 : len' ≤ 150) :
    Calls Tryz.prog 7 #[.slice a len cap, .slice a' len' cap'] w fun e w' => e = .returned (.bool true) ∧ Below w.heap.size w w' := by
  obtain ⟨i0, hi, hz0, hz1, hz2⟩ := info_parts AN.info_u8
  have HE := Lib.hid he
  have HU := Lib.hid hu
  have HC := Lib.hid hu'
  clear he hu hu'
  have hQ := Bk.new w 73 #[.slice a len cap]
  have hb0 := bel_new w (.cells #[.slice a len cap] 73)
  have q0 := hQ.cell 0
  simp only [List.getElem?_toArray, List.getElem?_cons_zero] at q0
  have HQ := Lib.hid (And.intro hQ hb0)
  clear hQ hb0
  go_enter Tryz.func7, Tryz.ntmps7
  go_wp2_with fail
  generalize w.alloc (.cells #[.slice a len cap] 73) = w1 at *
  generalize hQe : w.heap.size = Q at *
  have HQe := Lib.hid hQe
  clear hQe
  refine (wnew_ok 1 _ (by omega) (by omega)).mono ?_
  rintro e w0 ⟨A, rfl, hS0⟩
  have S0 : Hid (Txt w w0 A (wfresh 1) Q (.slice a len cap) (.slice none 0 0) []) := ⟨WSt.after (by rw [HQe.out]; exact HQ.out.2) hS0, HQ.out.1.below hS0.bel, by have := HQe.out; omega, World.ownsRow_nil _ _ _ _⟩
  clear hS0
  unfold ptr
  go_wp2_with fail
  go_loopw [7, 8] (fun u v wr => ∃ j : Nat, j ≤ len ∧ v = .int .i64 j ∧ Hid (Txt w wr A (wfresh 1) Q (.slice a len cap) u (AN.text (answs B j)))) (fun _ v _ => len - (intOf v).toNat)
  case atStart => exact ⟨0, Nat.zero_le _, rfl, S0.out⟩
  case round =>
    clear S0
    obtain ⟨j, hj, rfl, H1⟩ := hrel
    have qr := H1.out.q.cell 0
    simp only [List.getElem?_toArray, List.getElem?_cons_zero] at qr
    by_cases hlt : j < len
    · obtain ⟨b, off, rfl, hb, hc⟩ := (HU.out.below H1.out.s.bel).at_ (by omega)
      have cj := hc j hlt
      have h0 := HU.out.bd j
      have hans : answ B j = 1 + (B j).tmod 3 := rfl
      have HAN := Lib.hid hans
      clear hc hans
      generalize B j = x at *
      rcases mod3t x h0.1 with hmod | hmod | hmod
      · have hmod' : x % 3 = 0 := by rw [← Int.tmod_eq_emod_of_nonneg h0.1]; exact hmod
        have hix : (((({ data := #[111, 108, 102] } : ByteArray)[0]'(by decide)).toNat : Nat) : Int) = 111 := rfl
        have hsn : AN.text (answs B (j + 1)) = AN.text (answs B j) ++ [111] := by
          rw [answs_snoc, AN.text_append, HAN.out, hmod]; rfl
        have HSN := Lib.hid hsn
        have HLE : Hid ((AN.text (answs B j)).length ≤ 100) := by unfold Hid; rw [AN.text_length, answs_len]; omega
        clear hsn HAN
        generalize AN.text (answs B j) = T at *
        have hown := H1.out.own
        go_wp2_with (at_builtin; refine wpList_append_own _ rfl _ _ 73 rfl w.heap.size 5 i0 (.int .u8 0) 1 1 Tryz.underlying73 hi hz0 hz1 hz2 rfl (by decide) _ _ _ rfl (hown.alloc _) ⟨wr.heap.size, 0, none⟩ 1 1 [.int .u8 111] rfl rfl ?c1 ?c2 ?c3 ?c4 ?c5 ?_)
        case c1 =>
          intro j u hj
          match j, hj with
          | 0, hj => simp at hj; subst hj; first | (simp [Addr.add]; done) | (simp [Addr.add]; rfl)
        case c2 => intro u hu; simp at hu; subst hu; rfl
        case c3 => have := HLE.out; unfold maxLen; omega
        case c4 => have := HLE.out; omega
        case c5 => have := H1.out.s.bel.size; simp; omega
        intro v' w2 hown' hgrow _
        have H2 : Hid (Txt w w2 A (wfresh 1) Q (.slice (some ⟨b, off, none⟩) len cap) v' (T ++ [111])) := (H1.out.quiet (bel_new wr _)).grow ⟨hgrow.os, hgrow.tape, hgrow.output, hgrow.size, fun k hk hs => hgrow.block k hk fun e => hs e.symm⟩ (by simpa [AN.bytes] using hown')
        clear hown' hgrow hown
        go_wp2
        go_roundw
        case rel => exact ⟨j + 1, by omega, by go_num, by rw [HSN.out]; exact H2.out⟩
        case measure => simp [intOf]; omega
      · have hmod' : x % 3 = 1 := by rw [← Int.tmod_eq_emod_of_nonneg h0.1]; exact hmod
        have hix : (((({ data := #[111, 108, 102] } : ByteArray)[1]'(by decide)).toNat : Nat) : Int) = 108 := rfl
        have hsn : AN.text (answs B (j + 1)) = AN.text (answs B j) ++ [108] := by
          rw [answs_snoc, AN.text_append, HAN.out, hmod]; rfl
        have HSN := Lib.hid hsn
        have HLE : Hid ((AN.text (answs B j)).length ≤ 100) := by unfold Hid; rw [AN.text_length, answs_len]; omega
        clear hsn HAN
        generalize AN.text (answs B j) = T at *
        have hown := H1.out.own
        go_wp2_with (at_builtin; refine wpList_append_own _ rfl _ _ 73 rfl w.heap.size 5 i0 (.int .u8 0) 1 1 Tryz.underlying73 hi hz0 hz1 hz2 rfl (by decide) _ _ _ rfl (hown.alloc _) ⟨wr.heap.size, 0, none⟩ 1 1 [.int .u8 108] rfl rfl ?c1 ?c2 ?c3 ?c4 ?c5 ?_)
        case c1 =>
          intro j u hj
          match j, hj with
          | 0, hj => simp at hj; subst hj; first | (simp [Addr.add]; done) | (simp [Addr.add]; rfl)
        case c2 => intro u hu; simp at hu; subst hu; rfl
        case c3 => have := HLE.out; unfold maxLen; omega
        case c4 => have := HLE.out; omega
        case c5 => have := H1.out.s.bel.size; simp; omega
        intro v' w2 hown' hgrow _
        have H2 : Hid (Txt w w2 A (wfresh 1) Q (.slice (some ⟨b, off, none⟩) len cap) v' (T ++ [108])) := (H1.out.quiet (bel_new wr _)).grow ⟨hgrow.os, hgrow.tape, hgrow.output, hgrow.size, fun k hk hs => hgrow.block k hk fun e => hs e.symm⟩ (by simpa [AN.bytes] using hown')
        clear hown' hgrow hown
        go_wp2
        go_roundw
        case rel => exact ⟨j + 1, by omega, by go_num, by rw [HSN.out]; exact H2.out⟩
        case measure => simp [intOf]; omega
      · have hmod' : x % 3 = 2 := by rw [← Int.tmod_eq_emod_of_nonneg h0.1]; exact hmod
        have hix : (((({ data := #[111, 108, 102] } : ByteArray)[2]'(by decide)).toNat : Nat) : Int) = 102 := rfl
        have hsn : AN.text (answs B (j + 1)) = AN.text (answs B j) ++ [102] := by
          rw [answs_snoc, AN.text_append, HAN.out, hmod]; rfl
        have HSN := Lib.hid hsn
        have HLE : Hid ((AN.text (answs B j)).length ≤ 100) := by unfold Hid; rw [AN.text_length, answs_len]; omega
        clear hsn HAN
        generalize AN.text (answs B j) = T at *
        have hown := H1.out.own
        go_wp2_with (at_builtin; refine wpList_append_own _ rfl _ _ 73 rfl w.heap.size 5 i0 (.int .u8 0) 1 1 Tryz.underlying73 hi hz0 hz1 hz2 rfl (by decide) _ _ _ rfl (hown.alloc _) ⟨wr.heap.size, 0, none⟩ 1 1 [.int .u8 102] rfl rfl ?c1 ?c2 ?c3 ?c4 ?c5 ?_)
        case c1 =>
          intro j u hj
          match j, hj with
          | 0, hj => simp at hj; subst hj; first | (simp [Addr.add]; done) | (simp [Addr.add]; rfl)
        case c2 => intro u hu; simp at hu; subst hu; rfl
        case c3 => have := HLE.out; unfold maxLen; omega
        case c4 => have := HLE.out; omega
        case c5 => have := H1.out.s.bel.size; simp; omega
        intro v' w2 hown' hgrow _
        have H2 : Hid (Txt w w2 A (wfresh 1) Q (.slice (some ⟨b, off, none⟩) len cap) v' (T ++ [102])) := (H1.out.quiet (bel_new wr _)).grow ⟨hgrow.os, hgrow.tape, hgrow.output, hgrow.size, fun k hk hs => hgrow.block k hk fun e => hs e.symm⟩ (by simpa [AN.bytes] using hown')
        clear hown' hgrow hown
        go_wp2
        go_roundw
        case rel => exact ⟨j + 1, by omega, by go_num, by rw [HSN.out]; exact H2.out⟩
        case measure => simp [intOf]; omega
    · obtain rfl : j = len := by omega
      clear hlt hj
      obtain ⟨hsE, hTd⟩ := Told.zero (answs_ans HU.out.bd j) (by rw [answs_len]; exact h100)
      have TD := Lib.hid hTd
      have hcv := AN.conv_own H1.out.own
      have hsz : (⟨(AN.text (answs B j)).toArray⟩ : ByteArray).size ≤ 140737488351232 := by
        rw [AN.size_data, List.toList_toArray, AN.text_length, answs_len]; omega
      have AS := Lib.hid (answer_s ⟨(AN.text (answs B j)).toArray⟩ 0 HE.out H1.out.s hsz (by rw [List.toList_toArray]; exact hsE))
      rw [List.toList_toArray] at AS
      clear hsE hTd hsz
      generalize AN.text (answs B j) = T at *
      unfold ptr at AS
      go_wp2_with fail
      refine AS.out.mono ?_
      rintro e w2 ⟨rfl, hS, hT⟩
      have hk := hT.out.keep H1.out.s.f H1.out.q
      have X3 : Hid (Tod w (w2.alloc (.cells #[.int .i64 0] 3)) A ((wfresh 1).said T) w2.heap.size Q 0 (.slice a j cap)) := Tod.start hS.out hk H1.out.lo
      clear hcv hS hT hk AS H1 qr
      go_wp2_with fail
      generalize w2.alloc (.cells #[.int .i64 0] 3) = w3 at *
      generalize w2.heap.size = P at *
      have hTk : ∀ W k, k ≤ 1000 → ∀ U, Tod w W A U P Q k (.slice a j cap) → Calls Tryz.prog 47 #[.pointer (some ⟨P, 0, none⟩), .pointer (some ⟨Q, 0, none⟩)] W fun e w' => e = .returned (.int .i64 (if k < j then answ B k else 1)) ∧ Hid (Tod w w' A U P Q (k + 1) (.slice a j cap) ∧ Kept (· = P) W w') := fun W k hk U h => by
        refine (told1_ok P Q k j cap a B W h.p h.q (HU.out.below h.s.bel) hk (by omega)).mono ?_
        rintro e w' ⟨rfl, h1, h2⟩
        exact ⟨rfl, h.put h1 h2, h2⟩
      have TK := Lib.hid hTk
      clear hTk
      go_wp2_with fail
      go_loopw [11] (fun v wr => ∃ i k : Nat, i ≤ len' ∧ v = .int .i64 i ∧ k ≤ i ∧ Hid (∃ U, Tod w wr A U P Q k (.slice a j cap) ∧ Told U (answs B j) i k)) (fun v _ => len' - (intOf v).toNat)
      case atStart => exact ⟨0, 0, Nat.zero_le _, rfl, Nat.le_refl _, _, X3.out, TD.out⟩
      case round =>
        clear X3 TD
        obtain ⟨i, k, hi, rfl, hk, HX⟩ := hrel
        obtain ⟨U, hX, hTd⟩ := HX.out
        have X := Lib.hid hX
        have TD := Lib.hid hTd
        clear HX hX hTd
        by_cases hlt : i < len'
        · have hUh := TD.out.h
          have hUv := TD.out.ok.ans
          have h192 := TD.out.ok.all_le
          obtain ⟨x, hx⟩ : ∃ x, U.h = x := ⟨_, rfl⟩
          rw [hx] at hUh hUv
          have UH := Lib.hid (And.intro hx hUh)
          clear hx hUh
          obtain ⟨m, hm⟩ : ∃ m, U.all.length = m := ⟨_, rfl⟩
          rw [hm] at h192
          have HM := Lib.hid hm
          clear hm
          go_wp2_with fail
          refine (all_s U.all X.out.s rfl).mono ?_
          rw [HM.out]
          rintro e w4 ⟨p, c, rfl, hR, hS, hb⟩
          have X4 := Lib.hid (X.out.quiet hb.out)
          have R4 := Lib.hid hR.out.rd
          clear hR hS hb X
          obtain ⟨b2, off2, rfl, hb2, hc2⟩ := (HC.out.below X4.out.s.bel).at_ (by omega)
          have ci := hc2 i hlt
          clear hc2
          by_cases hc : C i = true ∧ m < 64
          · obtain ⟨hct, h64⟩ := hc
            rw [hct] at ci
            obtain ⟨hAE, hTA⟩ := TD.out.acq (by rw [HM.out]; exact h64) (by omega)
            have TA := Lib.hid hTA
            clear hTA
            obtain rfl | rfl | rfl : x = 1 ∨ x = 2 ∨ x = 3 := by omega
            · have hAE2 : U.aE 1 i = 0 := by rw [hAE, UH.out.1]; decide
              have AQ := Lib.hid (acq_s 1 i _ _ _ 0 X4.out.s ⟨by omega, by omega⟩ rfl rfl rfl hAE2)
              generalize U.aK 1 i = K1 at AQ
              generalize U.aI 1 i = I1 at AQ
              generalize U.aG 1 i = G1 at AQ
              have hnx := UH.out.2
              have NX := Lib.hid hnx
              clear hAE hAE2 hnx
              unfold ptr at AQ
              go_wp2_with fail
              refine AQ.out.mono ?_
              rintro e w5 ⟨rfl, hS, hT⟩
              have X5 := Lib.hid (((X4.out.step hS.out hT.out).quiet (bel_new w5 (.cells #[.int .i64 K1, .int .i64 I1, .int .u32 G1] 25))))
              clear hS hT AQ X4
              go_wp2_with fail
              have hs6 : (w5.alloc (.cells #[.int .i64 K1, .int .i64 I1, .int .u32 G1] 25)).heap.size = w5.heap.size + 1 := Array.size_push ..
              have S6 := Lib.hid hs6
              clear hs6
              generalize w5.alloc (.cells #[.int .i64 K1, .int .i64 I1, .int .u32 G1] 25) = w6 at *
              generalize w5.heap.size = xb at *
              have W6 := Bk.new w6 29 #[.int .i64 0, .int .i64 0, .int .i64 15, .int .i64 14]
              have hPb := X5.out.p.lt
              have X6 := Lib.hid (X5.out.quiet (bel_new w6 (.cells #[.int .i64 0, .int .i64 0, .int .i64 15, .int .i64 14] 29)))
              have TKc := TK.out _ k (by omega) _ X6.out
              rw [← NX.out] at TKc
              have TC := Lib.hid TKc
              clear TKc X5
              refine TC.out.mono ?_
              rintro e w7 ⟨rfl, hT7⟩
              have X7 := Lib.hid hT7.out.1
              have c7 : w7.cell? ⟨w6.heap.size, 1, none⟩ = some (.int .i64 0) := kept_cell hT7.out.2 (W6.cell 1) (by omega)
              rw [S6.out] at c7
              clear hT7 TC X6 W6 S6
              go_wp2
              go_roundw
              case rel => exact ⟨i + 1, k + 1, by omega, by go_num, by omega, _, X7.out, TA.out⟩
              case measure => simp [intOf]; omega
            · have hAE2 : U.aE 1 i = 15 := by rw [hAE, UH.out.1]; decide
              have AQ := Lib.hid (acq_s 1 i _ _ _ 15 X4.out.s ⟨by omega, by omega⟩ rfl rfl rfl hAE2)
              generalize U.aK 1 i = K1 at AQ
              generalize U.aI 1 i = I1 at AQ
              generalize U.aG 1 i = G1 at AQ
              have hnx := UH.out.2
              have NX := Lib.hid hnx
              clear hAE hAE2 hnx
              unfold ptr at AQ
              go_wp2_with fail
              refine AQ.out.mono ?_
              rintro e w5 ⟨rfl, hS, hT⟩
              have X5 := Lib.hid (((X4.out.step hS.out hT.out).quiet (bel_new w5 (.cells #[.int .i64 K1, .int .i64 I1, .int .u32 G1] 25))))
              clear hS hT AQ X4
              go_wp2_with fail
              have hs6 : (w5.alloc (.cells #[.int .i64 K1, .int .i64 I1, .int .u32 G1] 25)).heap.size = w5.heap.size + 1 := Array.size_push ..
              have S6 := Lib.hid hs6
              clear hs6
              generalize w5.alloc (.cells #[.int .i64 K1, .int .i64 I1, .int .u32 G1] 25) = w6 at *
              generalize w5.heap.size = xb at *
              have W6 := Bk.new w6 29 #[.int .i64 0, .int .i64 0, .int .i64 15, .int .i64 14]
              have hPb := X5.out.p.lt
              have X6 := Lib.hid (X5.out.quiet (bel_new w6 (.cells #[.int .i64 0, .int .i64 0, .int .i64 15, .int .i64 14] 29)))
              have TKc := TK.out _ k (by omega) _ X6.out
              rw [← NX.out] at TKc
              have TC := Lib.hid TKc
              clear TKc X5
              refine TC.out.mono ?_
              rintro e w7 ⟨rfl, hT7⟩
              have X7 := Lib.hid hT7.out.1
              have c7 : w7.cell? ⟨w6.heap.size, 2, none⟩ = some (.int .i64 15) := kept_cell hT7.out.2 (W6.cell 2) (by omega)
              rw [S6.out] at c7
              clear hT7 TC X6 W6 S6
              go_wp2
              go_roundw
              case rel => exact ⟨i + 1, k + 1, by omega, by go_num, by omega, _, X7.out, TA.out⟩
              case measure => simp [intOf]; omega
            · have hAE2 : U.aE 1 i = 14 := by rw [hAE, UH.out.1]; decide
              have AQ := Lib.hid (acq_s 1 i _ _ _ 14 X4.out.s ⟨by omega, by omega⟩ rfl rfl rfl hAE2)
              generalize U.aK 1 i = K1 at AQ
              generalize U.aI 1 i = I1 at AQ
              generalize U.aG 1 i = G1 at AQ
              have hnx := UH.out.2
              have NX := Lib.hid hnx
              clear hAE hAE2 hnx
              unfold ptr at AQ
              go_wp2_with fail
              refine AQ.out.mono ?_
              rintro e w5 ⟨rfl, hS, hT⟩
              have X5 := Lib.hid (((X4.out.step hS.out hT.out).quiet (bel_new w5 (.cells #[.int .i64 K1, .int .i64 I1, .int .u32 G1] 25))))
              clear hS hT AQ X4
              go_wp2_with fail
              have hs6 : (w5.alloc (.cells #[.int .i64 K1, .int .i64 I1, .int .u32 G1] 25)).heap.size = w5.heap.size + 1 := Array.size_push ..
              have S6 := Lib.hid hs6
              clear hs6
              generalize w5.alloc (.cells #[.int .i64 K1, .int .i64 I1, .int .u32 G1] 25) = w6 at *
              generalize w5.heap.size = xb at *
              have W6 := Bk.new w6 29 #[.int .i64 0, .int .i64 0, .int .i64 15, .int .i64 14]
              have hPb := X5.out.p.lt
              have X6 := Lib.hid (X5.out.quiet (bel_new w6 (.cells #[.int .i64 0, .int .i64 0, .int .i64 15, .int .i64 14] 29)))
              have TKc := TK.out _ k (by omega) _ X6.out
              rw [← NX.out] at TKc
              have TC := Lib.hid TKc
              clear TKc X5
              refine TC.out.mono ?_
              rintro e w7 ⟨rfl, hT7⟩
              have X7 := Lib.hid hT7.out.1
              have c7 : w7.cell? ⟨w6.heap.size, 3, none⟩ = some (.int .i64 14) := kept_cell hT7.out.2 (W6.cell 3) (by omega)
              rw [S6.out] at c7
              clear hT7 TC X6 W6 S6
              go_wp2
              go_roundw
              case rel => exact ⟨i + 1, k + 1, by omega, by go_num, by omega, _, X7.out, TA.out⟩
              case measure => simp [intOf]; omega
          · by_cases hcf : C i = true
            · have h64 : ¬ m < 64 := fun c => hc ⟨hcf, c⟩
              rw [hcf] at ci
              clear hc
              have hmod : ((i : Int).tmod (m : Int)) = ((i % m : Nat) : Int) := by rw [Int.tmod_eq_emod_of_nonneg (by omega)]; omega
              have hmod2 : ((i : Int) % (m : Int)) = ((i % m : Nat) : Int) := by omega
              have hq : i % m < m := Nat.mod_lt _ (by omega)
              generalize i % m = q at *
              have hqV : q < U.all.length := by rw [HM.out]; exact hq
              obtain ⟨g2, o2, rfl, hg2, t0, t1, t2⟩ := R4.out.cell hqV
              have hmem : (U.all[q]) ∈ U.all := List.getElem_mem hqV
              generalize U.all[q] = xo at *
              obtain ⟨k1, i1, g1⟩ := xo
              dsimp only at t0 t1 t2
              have hHere := TD.out.ok.mem.1 hmem
              have hPoss := TD.out.ok.poss hHere
              obtain ⟨hl0, hlA, hTr⟩ := TD.out.rel hmem (by omega)
              have hr : RgO k1 i1 g1 := by
                have := TD.out.ok.gen hHere
                obtain ⟨b1, b2, b3, b4, b5⟩ := hPoss
                exact ⟨by omega, by omega, by omega, by omega, by omega, this⟩
              rw [UH.out.1] at hlA
              have RS := Lib.hid (rel_s k1 i1 g1 1 x 0 HE.out X4.out.s hr ⟨by decide, by decide⟩ hlA hl0)
              have TR := Lib.hid hTr
              have NX := Lib.hid UH.out.2
              clear hTr hlA hl0 hr hPoss hHere hmem hqV UH HM TD
              unfold ptr at RS
              go_wp2_with fail
              refine RS.out.mono ?_
              rintro e w5 ⟨rfl, hS, hT⟩
              have X5 := Lib.hid (X4.out.step hS.out hT.out)
              have TKc := TK.out _ k (by omega) _ X5.out
              rw [← NX.out] at TKc
              have TC := Lib.hid TKc
              clear TKc hS hT RS X4 R4 t0 t1 t2
              go_wp2_with fail
              refine TC.out.mono ?_
              rintro e w7 ⟨rfl, hT7⟩
              have X7 := Lib.hid hT7.out.1
              clear hT7 TC X5
              go_wp2
              go_roundw
              case rel => exact ⟨i + 1, k + 1, by omega, by go_num, by omega, _, X7.out, TR.out⟩
              case measure => simp [intOf]; omega
            · have hcf2 : C i = false := by simpa using hcf
              rw [hcf2] at ci
              clear hc hcf
              by_cases hm0 : m = 0
              · subst hm0
                have X7 := X4
                have TR := Lib.hid TD.out.more
                go_wp2
                go_roundw
                case rel => exact ⟨i + 1, k, by omega, by go_num, by omega, _, X7.out, TR.out⟩
                case measure => simp [intOf]; omega
              · skip
                have hmod : ((i : Int).tmod (m : Int)) = ((i % m : Nat) : Int) := by rw [Int.tmod_eq_emod_of_nonneg (by omega)]; omega
                have hmod2 : ((i : Int) % (m : Int)) = ((i % m : Nat) : Int) := by omega
                have hq : i % m < m := Nat.mod_lt _ (by omega)
                generalize i % m = q at *
                have hqV : q < U.all.length := by rw [HM.out]; exact hq
                obtain ⟨g2, o2, rfl, hg2, t0, t1, t2⟩ := R4.out.cell hqV
                have hmem : (U.all[q]) ∈ U.all := List.getElem_mem hqV
                generalize U.all[q] = xo at *
                obtain ⟨k1, i1, g1⟩ := xo
                dsimp only at t0 t1 t2
                have hHere := TD.out.ok.mem.1 hmem
                have hPoss := TD.out.ok.poss hHere
                obtain ⟨hl0, hlA, hTr⟩ := TD.out.rel hmem (by omega)
                have hr : RgO k1 i1 g1 := by
                  have := TD.out.ok.gen hHere
                  obtain ⟨b1, b2, b3, b4, b5⟩ := hPoss
                  exact ⟨by omega, by omega, by omega, by omega, by omega, this⟩
                rw [UH.out.1] at hlA
                have RS := Lib.hid (rel_s k1 i1 g1 1 x 0 HE.out X4.out.s hr ⟨by decide, by decide⟩ hlA hl0)
                have TR := Lib.hid hTr
                have NX := Lib.hid UH.out.2
                clear hTr hlA hl0 hr hPoss hHere hmem hqV UH HM TD
                unfold ptr at RS
                go_wp2_with fail
                refine RS.out.mono ?_
                rintro e w5 ⟨rfl, hS, hT⟩
                have X5 := Lib.hid (X4.out.step hS.out hT.out)
                have TKc := TK.out _ k (by omega) _ X5.out
                rw [← NX.out] at TKc
                have TC := Lib.hid TKc
                clear TKc hS hT RS X4 R4 t0 t1 t2
                go_wp2_with fail
                refine TC.out.mono ?_
                rintro e w7 ⟨rfl, hT7⟩
                have X7 := Lib.hid hT7.out.1
                clear hT7 TC X5
                go_wp2
                go_roundw
                case rel => exact ⟨i + 1, k + 1, by omega, by go_num, by omega, _, X7.out, TR.out⟩
                case measure => simp [intOf]; omega
        · obtain rfl : i = len' := by omega
          go_wp2_with fail
          refine (works_ok _ (HE.out.below X.out.s.bel)).mono ?_
          rintro e v3 ⟨rfl, hb⟩
          have B7 := Lib.hid (bel2 X.out.s.bel hb)
          clear hb
          go_wp2
          go_ret
          exact ⟨rfl, B7.out⟩
set_option maxRecDepth 100000 in
set_option maxHeartbeats 2000000 in
theorem oTol_walk (a : Option Addr) (len cap : Nat) (B : Nat → Int) (a' : Option Addr) (len' cap' : Nat) (C : Nat → Bool) (w : World) (hl : len ≤ cap) (hm : cap ≤ 9223372036854775807) (hu : Bys w a len B) (hl' : len' ≤ cap') (hm' : cap' ≤ 9223372036854775807) (hu' : Bls w a' len' C) (he : OEnv w) :
    Calls Tryz.prog 7 #[.slice a len cap, .slice a' len' cap'] w fun e w' => e = .returned (.bool true) ∧ Below w.heap.size w w' := by
  by_cases h : len ≤ 100 ∧ len' ≤ 150
  · exact told_main a len cap B a' len' cap' C w hl hm hu hl' hm' hu' he h.1 h.2
  · have HE := Lib.hid he
    clear he hu hu'
    have hQ := Bk.new w 73 #[.slice a len cap]
    have q0 := hQ.cell 0
    simp only [List.getElem?_toArray, List.getElem?_cons_zero] at q0
    have B0 := Lib.hid (bel_new w (.cells #[.slice a len cap] 73))
    clear hQ
    by_cases h1 : 100 < len
    · clear h
      go_enter Tryz.func7, Tryz.ntmps7
      go_wp2_with fail
      refine (works_ok _ (HE.out.below B0.out)).mono ?_
      rintro e v ⟨rfl, hb⟩
      have B7 := Lib.hid (bel2 B0.out hb)
      clear hb
      go_wp2
      go_ret
      exact ⟨rfl, B7.out⟩
    · have h2 : 150 < len' := by omega
      clear h
      go_enter Tryz.func7, Tryz.ntmps7
      go_wp2_with fail
      refine (works_ok _ (HE.out.below B0.out)).mono ?_
      rintro e v ⟨rfl, hb⟩
      have B7 := Lib.hid (bel2 B0.out hb)
      clear hb
      go_wp2
      go_ret
      exact ⟨rfl, B7.out⟩
end Go.Proofs.YtpinmiplefidpaaGreatDoor
