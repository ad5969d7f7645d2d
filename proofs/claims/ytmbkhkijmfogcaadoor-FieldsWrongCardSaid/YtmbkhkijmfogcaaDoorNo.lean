/- The contracts of the document's RefText and Text. -/
import Derived.Test.YtmbkhkijmfogcaaDoorNl
import Derived.Deep.RegionHeld3
import Derived.RegionTactic
import Derived.IntWalk
namespace Go.Proofs.YtmbkhkijmfogcaaDoor
open Go.RowKit

/-- A call at a given number: it names the number, so that another call's contract is not tried. -/
theorem at_int {f : Nat} {W : World} {Q : Ending → World → Prop} (u : Int) (h : Calls Tryd.prog f #[.int .u64 u] W Q) : Calls Tryd.prog f #[.int .u64 u] W Q := h

set_option maxHeartbeats 1000000 in
set_option maxRecDepth 100000 in
theorem drtext_ok (r : Rf) (h : RfOk r) (w : World) : Calls Tryd.prog 34 #[rfv r] w fun e w' => e = .returned (.string ⟨(rtxt r).toArray⟩) ∧ Below w.heap.size w w' := by
  by_cases h0 : r = (0, 0)
  · subst h0
    unfold rfv rfc
    simp only
    go_enter Tryd.func34, Tryd.ntmps34
    go_wp2
    go_ret
    exact ⟨rfl, (Below.refl _ _).alloc (Nat.le_refl _) _⟩
  · obtain ⟨s, g, rfl, hs, hg1, hg2, ht⟩ := rfok_nat h h0
    rw [ht, ← cat_ref]
    have hs1 : (Lib.decDigits s).length ≤ 10 := (digits_len s (by omega)).2
    have hs2 : (Lib.decDigits g).length ≤ 10 := (digits_len g (by omega)).2
    have hd1 := fun W => digits_any s (by omega) W
    have hd2 := fun W => digits_any g (by omega) W
    unfold rfv rfc
    simp only
    obtain ⟨S, hS⟩ : ∃ S : Int, (s : Int) = S := ⟨_, rfl⟩
    obtain ⟨G, hG⟩ : ∃ G : Int, (g : Int) = G := ⟨_, rfl⟩
    have hS0 : 0 ≤ S ∧ S < 256 := by omega
    have hG0 : 1 ≤ G ∧ G ≤ 4294967295 := by omega
    rw [hS] at hd1 ⊢
    rw [hG] at hd2 ⊢
    obtain ⟨hS1, hS2⟩ := hS0
    obtain ⟨hG1, hG2⟩ := hG0
    obtain ⟨A, hA⟩ : ∃ A : ByteArray, ⟨(Lib.decDigits s).toArray⟩ = A := ⟨_, rfl⟩
    obtain ⟨C, hC⟩ : ∃ C : ByteArray, ⟨(Lib.decDigits g).toArray⟩ = C := ⟨_, rfl⟩
    have hA1 : A.size ≤ 10 := by rw [← hA, size_list]; exact hs1
    have hC1 : C.size ≤ 10 := by rw [← hC, size_list]; exact hs2
    rw [hA] at hd1 ⊢
    rw [hC] at hd2 ⊢
    have HD1 := Lib.hid hd1
    have HD2 := Lib.hid hd2
    clear h h0 ht hS hG hA hC hd1 hd2 hs1 hs2 hs hg1 hg2
    obtain ⟨w1, hw1⟩ : ∃ w1, w.alloc (.cells #[.int .i64 S, .int .u32 G] 24) = w1 := ⟨_, rfl⟩
    have hb1 : Bk w1 w.heap.size 24 #[.int .i64 S, .int .u32 G] := by rw [← hw1]; exact Bk.new _ _ _
    have hB : Below w.heap.size w w1 := by rw [← hw1]; exact (Below.refl _ w).alloc (Nat.le_refl _) _
    have HW1 := Lib.hid hw1
    have HB := Lib.hid hB
    have hc := hb1.cell 0
    have hc1 := hb1.cell 1
    simp only [List.getElem?_toArray, List.getElem?_cons_zero, List.getElem?_cons_succ] at hc hc1
    clear hw1 hb1 hB
    have hs0 : S = 0 ∨ S ≠ 0 := by omega
    rcases hs0 with rfl | hs0
    · go_enter Tryd.func34, Tryd.ntmps34
      go_upto_region 1 with fail
      rw [HW1.out]
      go_wp2
      have q1 : IntKind.u64.wrap 0 = 0 := IntWalk.u64_in _ (by omega)
      have q2 : IntKind.u64.wrap G = G := IntWalk.u64_in _ (by omega)
      have c1 : ¬ 9223372036854775807 < A.size + 1 := by omega
      have c2 : ¬ 9223372036854775807 < A.size + 1 + C.size := by omega
      have hz0 := And.intro hc hc1
      clear hc hc1
      go_region_held3 (fun W => W.cell? ⟨w.heap.size, 0, none⟩ = some (.int .i64 0) ∧ W.cell? ⟨w.heap.size, 1, none⟩ = some (.int .u32 G)) (first | exact hz0 | exact hz1 | exact hz2)
        (first
        | (go_at_call 44; (with_reducible refine at_int 0 ?_); refine (HD1.out _).mono ?_; rintro e w4 ⟨rfl, hb4⟩; have hz1 := And.intro (cell_stays hb4 hz0.1) (cell_stays hb4 hz0.2))
        | (go_at_call 44; (with_reducible refine at_int G ?_); refine (HD2.out _).mono ?_; rintro e w5 ⟨rfl, hb5⟩; have hz2 := And.intro (cell_stays hb5 hz1.1) (cell_stays hb5 hz1.2)))
      all_goals
        clear q1 q2 c1 c2 hz0 hz1 hz2
        go_wp2
        go_ret
        exact ⟨rfl, bel2 HB.out (bel2 (bel2 (bel_dr _) hb4) hb5)⟩
    · go_enter Tryd.func34, Tryd.ntmps34
      go_upto_region 1 with fail
      rw [HW1.out]
      go_wp2
      have q1 : IntKind.u64.wrap S = S := IntWalk.u64_in _ (by omega)
      have q2 : IntKind.u64.wrap G = G := IntWalk.u64_in _ (by omega)
      have c1 : ¬ 9223372036854775807 < A.size + 1 := by omega
      have c2 : ¬ 9223372036854775807 < A.size + 1 + C.size := by omega
      have hz0 := And.intro hc hc1
      clear hc hc1
      go_region_held3 (fun W => W.cell? ⟨w.heap.size, 0, none⟩ = some (.int .i64 S) ∧ W.cell? ⟨w.heap.size, 1, none⟩ = some (.int .u32 G)) (first | exact hz0 | exact hz1 | exact hz2)
        (first
        | (go_at_call 44; (with_reducible refine at_int S ?_); refine (HD1.out _).mono ?_; rintro e w4 ⟨rfl, hb4⟩; have hz1 := And.intro (cell_stays hb4 hz0.1) (cell_stays hb4 hz0.2))
        | (go_at_call 44; (with_reducible refine at_int G ?_); refine (HD2.out _).mono ?_; rintro e w5 ⟨rfl, hb5⟩; have hz2 := And.intro (cell_stays hb5 hz1.1) (cell_stays hb5 hz1.2)))
      all_goals
        clear q1 q2 c1 c2 hz0 hz1 hz2
        go_wp2
        go_ret
        exact ⟨rfl, bel2 HB.out (bel2 (bel2 (bel_dr _) hb4) hb5)⟩

theorem cat_word2 (o : Ob) {k : Nat} (hk : k < 4) : (⟨(tx o k).toArray⟩ : ByteArray) ++ ⟨#[32]⟩ ++ ⟨(rtxt (o.fld k)).toArray⟩ = ⟨(tx o (k + 1)).toArray⟩ := by
  rw [tx_succ o hk]
  apply ByteArray.ext
  simp
set_option maxRecDepth 100000 in
set_option maxHeartbeats 2000000 in
theorem dtext_any (o : Ob) (hr : Rg o) (w : World) : Calls Tryd.prog 24 #[obv o] w fun e w' => e = .returned (.tuple #[.string ⟨(textR o).1.toArray⟩, .int .i64 (textR o).2]) ∧ Below w.heap.size w w' := by
  have HC := Lib.hid (dcheck_any o hr)
  obtain ⟨w1, hw1⟩ : ∃ w1, w.alloc (.cells (obc o) 31) = w1 := ⟨_, rfl⟩
  have hb1 : Bk w1 w.heap.size 31 (obc o) := by rw [← hw1]; exact Bk.new _ _ _
  have hB : Below w.heap.size w w1 := by rw [← hw1]; exact (Below.refl _ w).alloc (Nat.le_refl _) _
  have HW1 := Lib.hid hw1
  have HB := Lib.hid (And.intro hb1 hB)
  obtain ⟨ck, hck⟩ : ∃ ck, chk o = ck := ⟨_, rfl⟩
  rw [hck] at HC
  clear hw1 hb1 hB hr
  by_cases hp : Poss o
  · obtain rfl : ck = 0 := hck.symm.trans (chk_ok hp)
    rw [text_ok' hp]
    have hn0 := hp.n0
    have hn4 := hp.n4
    have HP := Lib.hid hp
    obtain ⟨N, hN⟩ : ∃ N : Nat, o.n = N := ⟨o.n.toNat, by omega⟩
    rw [hN] at hn4
    have hN4 : N ≤ 4 := by omega
    obtain ⟨hd, hhd⟩ : ∃ hd, o.h = hd := ⟨_, rfl⟩
    have HN := Lib.hid hN
    have HH := Lib.hid hhd
    unfold obv obc at HC ⊢
    unfold obc at HW1
    rw [hN, hhd] at HC HW1 ⊢
    clear hp hck hn0 hN hhd
    cases hd with
    | true =>
      have HT : Hid (otxt o = hndW) := by unfold Hid otxt; rw [HH.out]; rfl
      go_enter Tryd.func24, Tryd.ntmps24
      go_wp2_with fail
      rw [HW1.out]
      refine (HC.out _).mono ?_
      rintro e w2 ⟨rfl, hb2⟩
      have hbk := HB.out.1.below hb2
      have a9 := hbk.ob.2.2.2.2.2.2.2.2.2
      rw [HH.out] at a9
      have hlb := hbk.lt
      clear hbk
      go_wp2
      go_ret2
      exact ⟨by rw [HT.out]; rfl, bel2 HB.out.2 hb2⟩
    | false =>
      go_enter Tryd.func24, Tryd.ntmps24
      go_wp2_with fail
      rw [HW1.out]
      refine (HC.out _).mono ?_
      rintro e w2 ⟨rfl, hb2⟩
      have hbk := HB.out.1.below hb2
      have a9 := hbk.ob.2.2.2.2.2.2.2.2.2
      rw [HH.out] at a9
      have hlb := hbk.lt
      have HBK := Lib.hid hbk
      have HB2 := Lib.hid (bel2 HB.out.2 hb2)
      clear hbk hb2
      go_wp2
      clear a9
      go_loopw [4, 5] (fun s i wr => ∃ k : Nat, k ≤ N ∧ i = .int .i64 k ∧ s = .string ⟨(tx o k).toArray⟩ ∧ Hid (Below w2.heap.size w2 wr)) (fun _ i _ => N - (intOf i).toNat)
      case atStart => exact ⟨0, by omega, rfl, by rw [tx_zero]; rfl, Below.refl _ _⟩
      case round =>
        obtain ⟨k, hk, rfl, rfl, HBW⟩ := hrel
        have hbk := HBK.out.below HBW.out
        have a0 := hbk.ob.1
        rw [HN.out] at a0
        by_cases hlt : k < N
        · have s0 := (hbk.cell (1 + k * 2)).trans (obc_s o k (by omega))
          have s1 := (hbk.cell (1 + k * 2 + 1)).trans (obc_g o k (by omega))
          have hlb2 := hbk.lt
          have HRT := Lib.hid (drtext_ok (o.fld k) (HP.out.ok k (by omega)))
          have HCAT := Lib.hid (cat_word2 o (k := k) (by omega))
          have hl1 : (⟨(tx o k).toArray⟩ : ByteArray).size ≤ 94 := by rw [size_list]; have := tx_len HP.out k (by omega); omega
          have hl2 : (⟨(rtxt (o.fld k)).toArray⟩ : ByteArray).size ≤ 21 := by rw [size_list]; exact (rtxt_len (HP.out.ok k (by omega))).2
          obtain ⟨A, hA⟩ : ∃ A : ByteArray, ⟨(tx o k).toArray⟩ = A := ⟨_, rfl⟩
          obtain ⟨C, hC⟩ : ∃ C : ByteArray, ⟨(rtxt (o.fld k)).toArray⟩ = C := ⟨_, rfl⟩
          unfold rfv rfc at HRT
          rw [hA] at hl1 HCAT ⊢
          rw [hC] at hl2 HCAT HRT
          clear hbk hA hC
          go_wp2_with fail
          refine (HRT.out _).mono ?_
          rintro e w4 ⟨rfl, hb4⟩
          have HB4 := Lib.hid (bel2 HBW.out hb4)
          clear hb4
          go_wp2
          go_roundw
          case rel => exact ⟨k + 1, by omega, by go_num, by rw [← HCAT.out], HB4.out⟩
          case measure => simp [intOf]; omega
        · obtain rfl : k = N := by omega
          have HT := Lib.hid (tx_all HH.out HN.out)
          have hlb2 := hbk.lt
          clear hlt hbk
          go_wp2
          go_ret2
          exact ⟨by rw [← HT.out]; rfl, bel2 HB2.out HBW.out⟩
  · obtain rfl : ck = 2 := hck.symm.trans (chk_bad hp)
    rw [text_bad' hp]
    unfold obv obc at HC ⊢
    unfold obc at HW1
    clear hp hck
    go_enter Tryd.func24, Tryd.ntmps24
    go_wp2_with fail
    rw [HW1.out]
    refine (HC.out _).mono ?_
    rintro e w2 ⟨rfl, hb2⟩
    go_wp2
    go_ret2
    exact ⟨rfl, bel2 HB.out.2 hb2⟩
end Go.Proofs.YtmbkhkijmfogcaaDoor
