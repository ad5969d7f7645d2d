/- The contract of the document's Unpin. -/
import Derived.Test.YtjhgckaaaonbiaaVb
namespace Go.Proofs.Ytjhgckaaaonbiaa
open Go.RowKit

/-- What a call that may write leaves of the document's pool. -/
def DSetQ (c d : Nat) (G : Po) (w w' : World) : Prop := ∃ d', (d' = d ∨ w.heap.size ≤ d') ∧ DW w' c d' G ∧ Kept (· = c) w w'
theorem DSetP.q {c d : Nat} {G : Po} {w w1 w' : World} (hb : Below w.heap.size w w1) (h : DSetP c G w1 w') : DSetQ c d G w w' := by
  obtain ⟨d', h1, h2, h3⟩ := h
  exact ⟨d', .inr (Nat.le_trans hb.size h1), h2, (Kept.of_below hb).trans h3⟩
theorem DW.quietQ {c d : Nat} {F : Po} {w w' : World} (h : DW w c d F) (hb : Below w.heap.size w w') : DSetQ c d F w w' := ⟨d, .inl rfl, h.below hb, Kept.of_below hb⟩
theorem gave_bx {F : Po} {i j : Nat} (h : j ≠ i) : (F.gave i).t.s j = F.t.s j ∧ (F.gave i).t.g j = F.t.g j ∧ (F.gave i).bx j = F.bx j := by
  have es : (F.gave i).t.s j = F.t.s j := by
    show (F.t.gave i).s j = _
    unfold Tb.gave
    split <;> exact put_other h
  have eg : (F.gave i).t.g j = F.t.g j := by
    show (F.t.gave i).g j = _
    unfold Tb.gave
    split
    · rfl
    · exact put_other h
  refine ⟨es, eg, ?_⟩
  unfold Po.bx
  rw [es]
  rfl
set_option maxHeartbeats 1000000 in
theorem dunpin_no (c d : Nat) (F : Po) (x y z : Int) (h0 : F.chk x y z ≠ 0) (w : World) (h : DW w c d F) : Calls Try.prog 17 #[.pointer (some ⟨c, 0, none⟩), .agg #[.int .i64 x, .int .i64 y, .int .u32 z]] w fun e w' => e = .returned (.int .i64 (F.chk x y z)) ∧ Below w.heap.size w w' := by
  have CK : Hid (∀ W, Below w.heap.size w W → Calls Try.prog 39 #[.pointer (some ⟨c, 0, none⟩), .agg #[.int .i64 x, .int .i64 y, .int .u32 z]] W fun e w' => e = .returned (.int .i64 (F.chk x y z)) ∧ Below W.heap.size W w') := fun W hW => dfind_ok c d F x y z W (h.below hW)
  have hE0 : (F.chk x y z != 0) = true := by simpa using h0
  generalize F.chk x y z = E at *
  clear h h0
  go_enter Try.func17, Try.ntmps17
  go_wp2_with (go_at_call 39; refine (CK.out _ ((Below.refl _ _).alloc (Nat.le_refl _) _)).mono ?_; rintro e w2 ⟨rfl, hb2⟩; have HB := Lib.hid (bel2 ((Below.refl _ _).alloc (Nat.le_refl _) _) hb2); clear hb2)
  go_ret
  exact ⟨rfl, HB.out⟩
set_option maxHeartbeats 2000000 in
theorem dunpin_yes (c d i : Nat) (F : Po) (w : World) (h : DW w c d F) (hi : i < F.t.n) (hs : F.t.s i = 1) : Calls Try.prog 17 #[.pointer (some ⟨c, 0, none⟩), .agg #[.int .i64 2, .int .i64 i, .int .u32 (F.t.g i)]] w fun e w' => e = .returned (.int .i64 0) ∧ Hid (DSetQ c d (F.gave i) w w') := by
  have hck := Po.chk_held hi hs
  have CK : Hid (∀ W, Below w.heap.size w W → Calls Try.prog 39 #[.pointer (some ⟨c, 0, none⟩), .agg #[.int .i64 2, .int .i64 i, .int .u32 (F.t.g i)]] W fun e w' => e = .returned (.int .i64 0) ∧ Below W.heap.size W w') := fun W hW => by
    have := dfind_ok c d F 2 i (F.t.g i) W (h.below hW)
    rw [hck] at this; exact this
  have hgm := h.ok.t.gm i
  by_cases hmax : F.t.g i = 4294967295
  · have ST : Hid (∀ W, Below w.heap.size w W → Calls Try.prog 32 #[.pointer (some ⟨c, 0, none⟩), .int .i64 i, .agg #[.bool false, .bool true, .int .u32 4294967295, .int .i64 0]] W fun e w' => e = .returned (.tuple #[]) ∧ Hid (DSetP c (F.gave i) W w')) := fun W hW => by
      refine dset_ok c d i 2 4294967295 0 F (F.gave i) W (h.below hW) hi (h.ok.gave i) (F.t.gave_n i) rfl (fun j hj => gave_bx hj) ?_
      have e1 : F.t.gave i = ⟨F.t.n, put F.t.s i 2, F.t.g⟩ := by unfold Tb.gave; rw [if_pos hmax]
      simp only [Po.bx, Po.gave, e1, put_same, hmax]; rfl
    rw [hmax] at CK ⊢
    clear h hi hs hck hgm hmax
    go_enter Try.func17, Try.ntmps17
    go_wp2_with (first
      | (go_at_call 39; refine (CK.out _ ((Below.refl _ _).alloc (Nat.le_refl _) _)).mono ?_; rintro e w2 ⟨rfl, hb2⟩; have HB := Lib.hid (bel2 ((Below.refl _ _).alloc (Nat.le_refl _) _) hb2); obtain ⟨q0, q1, q2, q3⟩ := box_o hb2; clear hb2)
      | (go_at_call 32; refine (ST.out _ HB.out).mono ?_; rintro e w3 ⟨rfl, hp⟩; have HP := Lib.hid (hp.out.q (d := d) HB.out); clear hp))
    go_ret
    exact ⟨rfl, HP.out⟩
  · have ST : Hid (∀ W, Below w.heap.size w W → Calls Try.prog 32 #[.pointer (some ⟨c, 0, none⟩), .int .i64 i, .agg #[.bool false, .bool false, .int .u32 ((F.t.g i : Int) + 1), .int .i64 0]] W fun e w' => e = .returned (.tuple #[]) ∧ Hid (DSetP c (F.gave i) W w')) := fun W hW => by
      have := dset_ok c d i 0 (F.t.g i + 1) 0 F (F.gave i) W (h.below hW) hi (h.ok.gave i) (F.t.gave_n i) rfl (fun j hj => gave_bx hj) ?_
      · rw [Int.natCast_add] at this; exact this
      · have e1 : F.t.gave i = ⟨F.t.n, put F.t.s i 0, put F.t.g i (F.t.g i + 1)⟩ := by unfold Tb.gave; rw [if_neg hmax]
        simp only [Po.bx, Po.gave, e1, put_same]; rfl
    have hm : ((F.t.g i : Int) == 4294967295) = false := by simp; omega
    have hg1 : (F.t.g i : Int) + 1 ≤ 4294967295 := by omega
    have hg0 : (0 : Int) ≤ (F.t.g i : Int) + 1 := by omega
    clear h hi hs hck hgm hmax
    generalize F.t.g i = fg at *
    go_enter Try.func17, Try.ntmps17
    go_wp2_with (first
      | (go_at_call 39; refine (CK.out _ ((Below.refl _ _).alloc (Nat.le_refl _) _)).mono ?_; rintro e w2 ⟨rfl, hb2⟩; have HB := Lib.hid (bel2 ((Below.refl _ _).alloc (Nat.le_refl _) _) hb2); obtain ⟨q0, q1, q2, q3⟩ := box_o hb2; clear hb2)
      | (go_at_call 32; refine (ST.out _ HB.out).mono ?_; rintro e w3 ⟨rfl, hp⟩; have HP := Lib.hid (hp.out.q (d := d) HB.out); clear hp))
    go_ret
    exact ⟨rfl, HP.out⟩
theorem dunpin_ok (c d : Nat) (F : Po) (x y z : Int) (w : World) (h : DW w c d F) : Calls Try.prog 17 #[.pointer (some ⟨c, 0, none⟩), .agg #[.int .i64 x, .int .i64 y, .int .u32 z]] w fun e w' => e = .returned (.int .i64 (F.chk x y z)) ∧ Hid (DSetQ c d (F.unpin x y z) w w') := by
  unfold Po.unpin
  by_cases h0 : F.chk x y z = 0
  · obtain ⟨rfl, i, rfl, hi, hs, rfl⟩ := Po.chk_pinned h0
    rw [if_pos h0, h0, Int.toNat_natCast]
    exact dunpin_yes c d i F w h hi hs
  · rw [if_neg h0]
    exact (dunpin_no c d F x y z h0 w h).mono fun e w' ⟨h1, h2⟩ => ⟨h1, h.quietQ h2⟩
end Go.Proofs.Ytjhgckaaaonbiaa
