/- The contract of the program's Text. -/
import Derived.Test.YtmbkhkijmfogcaaDoorNj
namespace Go.Proofs.YtmbkhkijmfogcaaDoor
open Go.RowKit

def tx (o : Ob) (k : Nat) : List UInt8 := objW ++ joined ((o.fs.take k).map rtxt)
theorem joined_snoc : ∀ (l : List (List UInt8)) (w : List UInt8), joined (l ++ [w]) = joined l ++ 32 :: w
  | [], w => by simp [joined]
  | a :: l, w => by
    rw [List.cons_append, joined, joined, joined_snoc l w]
    simp
theorem tx_zero (o : Ob) : tx o 0 = objW := by simp [tx, joined]
theorem tx_succ (o : Ob) {k : Nat} (hk : k < 4) : tx o (k + 1) = tx o k ++ 32 :: rtxt (o.fld k) := by
  unfold tx
  rw [List.take_add_one, fs_at o k hk, Option.toList_some, List.map_append, List.map_cons, List.map_nil, joined_snoc, List.append_assoc]
theorem tx_len {o : Ob} (hp : Poss o) : ∀ k, k ≤ 4 → (tx o k).length ≤ 6 + k * 22
  | 0, _ => by rw [tx_zero]; decide
  | k + 1, h => by
    have := tx_len hp k (by omega)
    have h2 := (rtxt_len (hp.ok k (by omega))).2
    rw [tx_succ o (by omega), List.length_append, List.length_cons]
    omega
theorem tx_all {o : Ob} (hh : o.h = false) {N : Nat} (hN : o.n = N) : tx o N = otxt o := by
  unfold tx otxt words
  rw [hh, hN]
  rfl
theorem cat_word (o : Ob) {k : Nat} (hk : k < 4) : (⟨(tx o k).toArray⟩ : ByteArray) ++ (⟨#[32]⟩ ++ ⟨(rtxt (o.fld k)).toArray⟩) = ⟨(tx o (k + 1)).toArray⟩ := by
  rw [tx_succ o hk]
  apply ByteArray.ext
  simp
theorem size_list (l : List UInt8) : (⟨l.toArray⟩ : ByteArray).size = l.length := by simp [ByteArray.size]

set_option maxRecDepth 100000 in
set_option maxHeartbeats 2000000 in
theorem text_any (o : Ob) (hr : Rg o) (w : World) (he : Env w) : Calls Tryd.prog 23 #[obv o] w fun e w' => e = .returned (.tuple #[.string ⟨(textR o).1.toArray⟩, .int .i64 (textR o).2]) ∧ Below w.heap.size w w' := by
  have HC := Lib.hid (check_any o hr)
  obtain ⟨w1, hw1⟩ : ∃ w1, w.alloc (.cells (obc o) 27) = w1 := ⟨_, rfl⟩
  have hb1 : Bk w1 w.heap.size 27 (obc o) := by rw [← hw1]; exact Bk.new _ _ _
  have hB : Below w.heap.size w w1 := by rw [← hw1]; exact (Below.refl _ w).alloc (Nat.le_refl _) _
  have HW1 := Lib.hid hw1
  have HB := Lib.hid (And.intro hb1 hB)
  have HE := Lib.hid (he.below hB)
  obtain ⟨ck, hck⟩ : ∃ ck, chk o = ck := ⟨_, rfl⟩
  rw [hck] at HC
  clear hw1 hb1 hB he hr
  by_cases hp : Poss o
  · obtain rfl : ck = 0 := hck.symm.trans (chk_ok hp)
    rw [text_ok' hp]
    have hn0 := hp.n0
    have hn4 := hp.n4
    have HP := Lib.hid hp
    obtain ⟨N, hN⟩ : ∃ N : Nat, o.n = N := ⟨o.n.toNat, by omega⟩
    rw [hN] at hn4
    have hN4 : N ≤ 4 := by omega
    obtain ⟨hd, hhd⟩ : ∃ hd, o.h = hd := ⟨_, rfl⟩
    have HN := Lib.hid hN
    have HH := Lib.hid hhd
    unfold obv obc at HC ⊢
    unfold obc at HW1
    rw [hN, hhd] at HC HW1 ⊢
    clear hp hck hn0 hN hhd
    cases hd with
    | true =>
      have HT : Hid (otxt o = hndW) := by unfold Hid otxt; rw [HH.out]; rfl
      go_enter Tryd.func23, Tryd.ntmps23
      go_wp2_with fail
      rw [HW1.out]
      refine (HC.out _).mono ?_
      rintro e w2 ⟨rfl, hb2⟩
      have hbk := HB.out.1.below hb2
      have a9 := hbk.ob.2.2.2.2.2.2.2.2.2
      rw [HH.out] at a9
      have hlb := hbk.lt
      clear hbk
      go_wp2
      go_ret2
      exact ⟨by rw [HT.out]; rfl, bel2 HB.out.2 hb2⟩
    | false =>
      go_enter Tryd.func23, Tryd.ntmps23
      go_wp2_with fail
      rw [HW1.out]
      refine (HC.out _).mono ?_
      rintro e w2 ⟨rfl, hb2⟩
      have hbk := HB.out.1.below hb2
      have a9 := hbk.ob.2.2.2.2.2.2.2.2.2
      have a0 := hbk.ob.1
      rw [HH.out] at a9
      rw [HN.out] at a0
      have hlb := hbk.lt
      have HBK := Lib.hid hbk
      have HB2 := Lib.hid (bel2 HB.out.2 hb2)
      have HE2 := Lib.hid (HE.out.below hb2)
      clear hbk hb2
      go_wp2
      clear a0 a9
      go_loopw [5, 20] (fun s i wr => ∃ k : Nat, k ≤ N ∧ i = .int .i64 k ∧ s = .string ⟨(tx o k).toArray⟩ ∧ Hid (Below w2.heap.size w2 wr)) (fun _ i _ => N - (intOf i).toNat)
      case atStart => exact ⟨0, by omega, rfl, by rw [tx_zero]; rfl, Below.refl _ _⟩
      case round =>
        obtain ⟨k, hk, rfl, rfl, HBW⟩ := hrel
        have hbk := HBK.out.below HBW.out
        by_cases hlt : k < N
        · have s0 := (hbk.cell (1 + k * 2)).trans (obc_s o k (by omega))
          have s1 := (hbk.cell (1 + k * 2 + 1)).trans (obc_g o k (by omega))
          have hlb2 := hbk.lt
          have HRT := Lib.hid (rtext_ok (o.fld k) (HP.out.ok k (by omega)))
          have HCAT := Lib.hid (cat_word o (k := k) (by omega))
          have HE3 := Lib.hid ((HE2.out.below HBW.out).below ((Below.refl wr.heap.size wr).alloc (Nat.le_refl _) (.cells (rfc (o.fld k)) 24)))
          have hl1 : (⟨(tx o k).toArray⟩ : ByteArray).size ≤ 94 := by rw [size_list]; have := tx_len HP.out k (by omega); omega
          have hl2 : (⟨(rtxt (o.fld k)).toArray⟩ : ByteArray).size ≤ 21 := by rw [size_list]; exact (rtxt_len (HP.out.ok k (by omega))).2
          obtain ⟨A, hA⟩ : ∃ A : ByteArray, ⟨(tx o k).toArray⟩ = A := ⟨_, rfl⟩
          obtain ⟨C, hC⟩ : ∃ C : ByteArray, ⟨(rtxt (o.fld k)).toArray⟩ = C := ⟨_, rfl⟩
          unfold rfv rfc at HRT
          unfold rfc at HE3
          rw [hA] at hl1 HCAT ⊢
          rw [hC] at hl2 HCAT HRT
          clear hbk hA hC
          go_wp2_with fail
          refine (HRT.out _ HE3.out).mono ?_
          rintro e w4 ⟨rfl, hb4⟩
          have HB4 := Lib.hid (bel2 HBW.out (bel2 ((Below.refl wr.heap.size wr).alloc (Nat.le_refl _) _) hb4))
          clear hb4
          go_wp2
          go_roundw
          case rel => exact ⟨k + 1, by omega, by go_num, by rw [← HCAT.out], HB4.out⟩
          case measure => simp [intOf]; omega
        · obtain rfl : k = N := by omega
          have HT := Lib.hid (tx_all HH.out HN.out)
          clear hlt hbk
          go_wp2
          go_ret2
          exact ⟨by rw [← HT.out]; rfl, bel2 HB2.out HBW.out⟩
  · obtain rfl : ck = 2 := hck.symm.trans (chk_bad hp)
    rw [text_bad' hp]
    unfold obv obc at HC ⊢
    unfold obc at HW1
    clear hp hck
    go_enter Tryd.func23, Tryd.ntmps23
    go_wp2_with fail
    rw [HW1.out]
    refine (HC.out _).mono ?_
    rintro e w2 ⟨rfl, hb2⟩
    go_wp2
    go_ret2
    exact ⟨rfl, bel2 HB.out.2 hb2⟩
end Go.Proofs.YtmbkhkijmfogcaaDoor
