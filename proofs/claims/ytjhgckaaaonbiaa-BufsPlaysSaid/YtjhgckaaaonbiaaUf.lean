/- The contract of the program's Pin, where it succeeds. -/
import Derived.Test.YtjhgckaaaonbiaaUe
namespace Go.Proofs.Ytjhgckaaaonbiaa
open Go.RowKit

set_option maxHeartbeats 2000000 in
theorem ppin_yes (b s k : Nat) (P : Po) (x : Int) (w : World) (h : PW w b s k P) (h1 : 1 ≤ x) (h2 : x ≤ 65536) (h3 : (P.used : Int) + x ≤ P.room) (i : Nat) (r : List Nat) (h4 : P.t.free = i :: r) : Calls Try.prog 13 #[.pointer (some ⟨b, 0, none⟩), .int .i64 x] w fun e w' => e = .returned (.tuple #[.agg #[.int .i64 2, .int .i64 i, .int .u32 (P.t.g i)], .int .i64 0]) ∧ PW w' b s k (P.put i x.toNat) ∧ Kept (fun g => g = s ∨ g = k) w w' := by
  obtain ⟨y, rfl⟩ : ∃ y : Nat, x = y := ⟨x.toNat, by omega⟩
  rw [Int.toNat_natCast]
  obtain ⟨hin, _⟩ := Tb.free_lt h4
  have hi := h.ok.hi
  have hg1 := h.ok.t.gm i
  obtain ⟨w4, hw4⟩ : ∃ w4, w.alloc (.cells #[.int .i64 0, .int .i64 0, .int .u32 0] 34) = w4 := ⟨_, rfl⟩
  have B4 : Below w.heap.size w w4 := by rw [← hw4]; exact (Below.refl _ w).alloc (Nat.le_refl _) _
  have n4 : Bk w4 w.heap.size 34 #[.int .i64 0, .int .i64 0, .int .u32 0] := by rw [← hw4]; exact Bk.new w _ _
  have HS : Hid (∀ W, Below w4.heap.size w4 W → W.cell? ⟨b, 0, none⟩ = some (.pointer (some ⟨s, 0, none⟩)) ∧ W.cell? ⟨s, 1, none⟩ = some (.int .i64 P.room) ∧ W.cell? ⟨s, 0, none⟩ = some (.pointer (some ⟨k, 0, none⟩)) ∧ Bk W w.heap.size 34 #[.int .i64 0, .int .i64 0, .int .u32 0] ∧ Below w.heap.size w W) := fun W hW =>
    ⟨((h.below B4).below hW).c0, ((h.below B4).below hW).s1, ((h.below B4).below hW).s0, n4.below hW, bel2 B4 hW⟩
  have US : Hid (∀ W, Below w.heap.size w W → Calls Try.prog 21 #[.pointer (some ⟨b, 0, none⟩)] W fun e w' => e = .returned (.int .i64 P.used) ∧ Below W.heap.size W w') := fun W hW => pused_ok b s k P W (h.below hW)
  have HB4 := Lib.hid B4
  have HW4 := Lib.hid hw4
  have TK : Hid (∀ W, Below w.heap.size w W → Calls Try.prog 28 #[.pointer (some ⟨k, 0, none⟩)] W fun e w' => e = .returned (.tuple #[.agg #[.int .i64 i, .int .u32 (P.t.g i)], .int .i64 0]) ∧ PW w' b s k ⟨P.t.took i, P.room, P.m⟩ ∧ Kept (· = k) W w' ∧ Kept (fun g => g = s ∨ g = k) w w') := fun W hW => by
    refine (take_ok k P.t W (h.below hW).tab).mono ?_
    rintro e w' ⟨rfl, hT, hk⟩
    have e1 : P.t.take = P.t.took i := by unfold Tb.take; rw [h4]
    have e2 : P.t.tI = i := by unfold Tb.tI; rw [h4]
    have e3 : P.t.tG = P.t.g i := by unfold Tb.tG; rw [h4]
    have e4 : P.t.tE = 0 := by unfold Tb.tE; rw [h4]
    rw [e2, e3, e4]
    rw [e1] at hT
    exact ⟨rfl, ⟨⟨h.ok.t.took i, h.ok.hi, h.ok.room, h.ok.m⟩, (h.below hW).hb.kept hk h.bk, (h.below hW).hs.kept hk h.sk, hT⟩, hk, (Kept.of_below hW).trans (hk.mono fun _ _ e => .inr e)⟩
  have HPO : Hid ((P.put i y).Ok) := h.ok.put i (by omega)
  have KT : Hid (k < w.heap.size) := h.tab.bt
  have FT : Hid (∀ g, PFoot b s k g → g < w.heap.size) := fun g hg => h.foot_lt hg
  have hu := h.ok.used_le
  have hr := h.ok.room
  obtain ⟨s0, s1, s2, _⟩ := HS.out w4 (Below.refl _ _)
  have hi64 : (i : Int) < 64 := by omega
  have hiN : i < 64 := by omega
  clear h B4 n4 hw4 h4
  obtain ⟨U, hU⟩ : ∃ U, P.used = U := ⟨_, rfl⟩
  obtain ⟨R, hR⟩ : ∃ R, P.room = R := ⟨_, rfl⟩
  obtain ⟨G, hG⟩ : ∃ G, P.t.g i = G := ⟨_, rfl⟩
  obtain ⟨M, hM⟩ : ∃ M, P.m i = M := ⟨_, rfl⟩
  rw [hU] at US hu h3
  rw [hR] at hr h3 s1
  rw [hG] at hg1 TK ⊢
  have HRM := Lib.hid (And.intro hR hM)
  clear hU hR hG hM
  have hwr : IntKind.i64.wrap ((U : Int) + y) = U + y := by rw [IntKind.wrap_i64]; omega
  go_enter Try.func13, Try.ntmps13
  go_wp2_with (go_at_call 27; refine (pvalid_yes _ s _ (by rw [HW4.out]; exact s0)).mono ?_; rintro e w' ⟨rfl, rfl⟩)
  rw [HW4.out]
  go_region_held3 (fun W => W.cell? ⟨b, 0, none⟩ = some (.pointer (some ⟨s, 0, none⟩)) ∧ W.cell? ⟨s, 1, none⟩ = some (.int .i64 R)) (first | (exact ⟨s0, s1⟩) | (with_reducible exact hz1)) (first
    | (go_at_call 21; (with_reducible refine (US.out _ (bel_drew HB4.out)).mono ?_); rintro e w5 ⟨rfl, hb5⟩; have HS5 := HS.out w5 (bel2 (bel_drew (Below.refl _ w4)) hb5); have hz1 := And.intro HS5.1 (HRM.out.1 ▸ HS5.2.1); have HB5 := Lib.hid HS5.2.2; clear hb5 HS5))
  all_goals
    obtain ⟨z1, z2⟩ := hz1
    have z3 := HB5.out.1
    go_wp2_with (go_at_call 28; refine (TK.out w5 HB5.out.2.2).mono ?_; rintro e w6 ⟨rfl, hp, hk6, hk⟩; have HP := Lib.hid (And.intro hp hk); have HO := Lib.hid (HB5.out.2.1.kept hk6 (by have := KT.out; omega)); clear hp hk6 hk)
    obtain ⟨W8, h8⟩ : ∃ W8, w6.alloc (.cells #[.int .i64 i, .int .u32 G] 80) = W8 := ⟨_, rfl⟩
    obtain ⟨I, hI⟩ : ∃ I, w6.heap.size = I := ⟨_, rfl⟩
    have p8 : PW W8 b s k ⟨P.t.took i, P.room, P.m⟩ := by rw [← h8]; exact HP.out.1.below ((Below.refl _ _).alloc (Nat.le_refl _) _)
    have o8 : Bk W8 w.heap.size 34 #[.int .i64 0, .int .i64 0, .int .u32 0] := by rw [← h8]; exact HO.out.up _
    have i8 : Bk W8 I 80 #[.int .i64 i, .int .u32 G] := by rw [← h8, ← hI]; exact Bk.new w6 _ _
    have k8 : Kept (fun g => g = s ∨ g = k) w W8 := by rw [← h8]; exact HP.out.2.alloc _
    have hIg : w.heap.size < I := by rw [← hI]; exact HO.out.lt
    rw [h8, hI]
    clear h8 hI HP HO z1 z2 z3
    have x0 := p8.c0
    have x1 := p8.sm hiN
    have x2 := p8.fz (2 + i)
    have x5 := i8.cell 0
    simp only [List.getElem?_toArray, List.getElem?_cons_zero, HRM.out.2] at x1 x5
    have HL := Lib.hid (And.intro p8 (And.intro o8 (And.intro i8 (And.intro k8 hIg))))
    clear p8 o8 i8 k8 hIg
    go_region
    obtain ⟨W9, h9⟩ : ∃ W9, (W8.setCell ⟨s, 2 + i, none⟩ (.int .i64 y)).drew = W9 := ⟨_, rfl⟩
    obtain ⟨p8, o8, i8, k8, hIg⟩ := HL.out
    have e9 : ∀ g, g ≠ s → W9.heap[g]? = W8.heap[g]? := fun g hg => by rw [← h9]; exact Below.heap_setCell _ _ _ _ hg
    have p9 : PW W9 b s k (P.put i y) := ⟨HPO.out, p8.hb.same (e9 b p8.bs), by
      have := p8.hs.put (2 + i) (.int .i64 y)
      rw [scells_put_m] at this
      rw [← h9]; exact this, p8.tab.same (e9 k (fun e => p8.sk e.symm))⟩
    have hs1 : s ≠ w.heap.size := by have := FT.out s (.inr (.inl rfl)); omega
    have hs2 : s ≠ I := by have := FT.out s (.inr (.inl rfl)); omega
    have o9 := o8.same (e9 w.heap.size (fun e => hs1 e.symm))
    have i9 := i8.same (e9 I (fun e => hs2 e.symm))
    have k9 : Kept (fun g => g = s ∨ g = k) w W9 := by rw [← h9]; exact (k8.put (p := ⟨s, 2 + i, none⟩) (.inr (.inl rfl)) _).drew
    rw [h9]
    clear h9 e9 p8 o8 i8 k8 HL x0 x1 x2 x5 hs1 hs2
    have j0 := i9.cell 0
    have j1 := i9.cell 1
    simp only [List.getElem?_toArray, List.getElem?_cons_zero, List.getElem?_cons_succ] at j0 j1
    have HL := Lib.hid (And.intro p9 (And.intro o9 (And.intro k9 (And.intro hIg i9.lt))))
    clear p9 o9 i9 k9 hIg
    go_wp2_with (go_at_call 29; refine (buffer_ok i G W9 (by omega) (by omega) (by omega) (by omega)).mono ?_; rintro e w10 ⟨rfl, hb10⟩; have HB10 := Lib.hid hb10; obtain ⟨d0, d1, d2, f0, f1, f2⟩ := laid3 (HL.out.2.1.below hb10); clear hb10)
    have HO := Lib.hid (HL.out.2.1.below HB10.out)
    have t := three_put HO.out (.int .i64 2) (.int .i64 i) (.int .u32 G)
    have t0 := t.cell 0
    have t1 := t.cell 1
    have t2 := t.cell 2
    simp only [List.getElem?_toArray, List.getElem?_cons_zero, List.getElem?_cons_succ] at t0 t1 t2
    refine bodyPost_ret (v := .tuple #[.agg #[.int .i64 2, .int .i64 i, .int .u32 G], .int .i64 0]) (by simp [results, Try.results13, go_sem, t0, t1, t2]) rfl ⟨rfl, ?_⟩
    have hkp := ((((Kept.refl (· = w.heap.size) w10).put1 0 (.int .i64 2)).put1 1 (.int .i64 i)).put1 2 (.int .u32 G))
    exact ⟨(HL.out.1.below HB10.out).kept hkp (fun g hg e => by have := FT.out g hg; omega), (HL.out.2.2.1.trans (Kept.of_below HB10.out)).self (hkp.mono fun g _ e => Or.inr (Nat.le_of_eq e.symm))⟩
/-- Pin, whatever is asked. -/
theorem ppin_any (b s k : Nat) (P : Po) (x : Int) (w : World) (h : PW w b s k P) : Calls Try.prog 13 #[.pointer (some ⟨b, 0, none⟩), .int .i64 x] w (PinV b s k P x w) := by
  unfold PinV
  rcases Po.can_cases P x with ⟨h1, h2⟩ | ⟨h1, h2, h3, h4⟩ | ⟨h1, h2, h3, h4, h5⟩ | ⟨h1, h2, h3, i, r, h4, h5⟩
  · obtain ⟨e1, e2, e3, e4⟩ := Po.pin_ne (P := P) (x := x) (by omega)
    rw [e1, e2, e3, e4, h2]
    exact (ppin_arg b s k P x w h h1).mono fun e w' ⟨g1, g2⟩ => ⟨g1, h.below g2, Kept.of_below g2⟩
  · obtain ⟨e1, e2, e3, e4⟩ := Po.pin_ne (P := P) (x := x) (by omega)
    rw [e1, e2, e3, e4, h4]
    exact (ppin_full b s k P x w h h1 h2 h3).mono fun e w' ⟨g1, g2⟩ => ⟨g1, h.below g2, Kept.of_below g2⟩
  · obtain ⟨e1, e2, e3, e4⟩ := Po.pin_ne (P := P) (x := x) (by omega)
    rw [e1, e2, e3, e4, h5]
    exact ppin_none b s k P x w h h1 h2 h3 h4
  · obtain ⟨e1, e2, e3, e4⟩ := Po.pin_zero h5 h4
    rw [e1, e2, e3, e4, h5]
    exact ppin_yes b s k P x w h h1 h2 h3 i r h4
end Go.Proofs.Ytjhgckaaaonbiaa
