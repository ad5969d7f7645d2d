/- The contract of the program's Pin. -/
import Derived.Test.YtjhgckaaaonbiaaUd
namespace Go.Proofs.Ytjhgckaaaonbiaa
open Go.RowKit

/-- What Pin makes of a pool. -/
def PinV (b s k : Nat) (P : Po) (x : Int) (w : World) (e : Ending) (w' : World) : Prop :=
  e = .returned (.tuple #[.agg #[.int .i64 (P.pK x), .int .i64 (P.pI x), .int .u32 (P.pG x)], .int .i64 (P.can x)]) ∧ PW w' b s k (P.pin x) ∧ Kept (fun g => g = s ∨ g = k) w w'
theorem ppin_inv (p : Option Addr) (x : Int) (w : World) (h : PInv w p) : Calls Try.prog 13 #[.pointer p, .int .i64 x] w fun e w' => e = .returned (.tuple #[.agg #[.int .i64 0, .int .i64 0, .int .u32 0], .int .i64 1]) ∧ Below w.heap.size w w' := by
  have H := Lib.hid (h.below ((Below.refl _ w).alloc (Nat.le_refl _) (.cells #[.int .i64 0, .int .i64 0, .int .u32 0] 34)))
  clear h
  go_enter Try.func13, Try.ntmps13
  go_wp2_with (go_at_call 27; refine (pvalid_no _ _ H.out).mono ?_; rintro e w' ⟨rfl, rfl⟩)
  refine bodyPost_ret (v := .tuple #[.agg #[.int .i64 0, .int .i64 0, .int .u32 0], .int .i64 1]) (by simp [results, Try.results13, go_sem]) rfl ⟨rfl, ?_⟩
  exact (Below.refl _ w).alloc (Nat.le_refl _) _
theorem ppin_arg (b s k : Nat) (P : Po) (x : Int) (w : World) (h : PW w b s k P) (hx : x < 1 ∨ 65536 < x) : Calls Try.prog 13 #[.pointer (some ⟨b, 0, none⟩), .int .i64 x] w fun e w' => e = .returned (.tuple #[.agg #[.int .i64 0, .int .i64 0, .int .u32 0], .int .i64 2]) ∧ Below w.heap.size w w' := by
  have H := Lib.hid (h.below ((Below.refl _ w).alloc (Nat.le_refl _) (.cells #[.int .i64 0, .int .i64 0, .int .u32 0] 34))).c0
  clear h
  by_cases h0 : x < 1
  all_goals
    first | have h1 : 65536 < x := by omega | skip
    clear hx
    go_enter Try.func13, Try.ntmps13
    go_wp2_with (go_at_call 27; refine (pvalid_yes _ s _ H.out).mono ?_; rintro e w' ⟨rfl, rfl⟩)
    refine bodyPost_ret (v := .tuple #[.agg #[.int .i64 0, .int .i64 0, .int .u32 0], .int .i64 2]) (by simp [results, Try.results13, go_sem]) rfl ⟨rfl, ?_⟩
    exact (Below.refl _ w).alloc (Nat.le_refl _) _
/-- Three cells written. -/
theorem three_put {W : World} {g : Nat} {t : TypeId} {a b c : Value} (h : Bk W g t #[a, b, c]) (x y z : Value) : Bk (((W.setCell ⟨g, 0, none⟩ x).setCell ⟨g, 1, none⟩ y).setCell ⟨g, 2, none⟩ z) g t #[x, y, z] := ((h.put 0 x).put 1 y).put 2 z
set_option maxHeartbeats 2000000 in
theorem ppin_full (b s k : Nat) (P : Po) (x : Int) (w : World) (h : PW w b s k P) (h1 : 1 ≤ x) (h2 : x ≤ 65536) (h3 : (P.room : Int) < P.used + x) : Calls Try.prog 13 #[.pointer (some ⟨b, 0, none⟩), .int .i64 x] w fun e w' => e = .returned (.tuple #[.agg #[.int .i64 0, .int .i64 0, .int .u32 0], .int .i64 4]) ∧ Below w.heap.size w w' := by
  obtain ⟨w4, hw4⟩ : ∃ w4, w.alloc (.cells #[.int .i64 0, .int .i64 0, .int .u32 0] 34) = w4 := ⟨_, rfl⟩
  have B4 : Below w.heap.size w w4 := by rw [← hw4]; exact (Below.refl _ w).alloc (Nat.le_refl _) _
  have n4 : Bk w4 w.heap.size 34 #[.int .i64 0, .int .i64 0, .int .u32 0] := by rw [← hw4]; exact Bk.new w _ _
  have HS : Hid (∀ W, Below w4.heap.size w4 W → W.cell? ⟨b, 0, none⟩ = some (.pointer (some ⟨s, 0, none⟩)) ∧ W.cell? ⟨s, 1, none⟩ = some (.int .i64 P.room) ∧ Bk W w.heap.size 34 #[.int .i64 0, .int .i64 0, .int .u32 0] ∧ Below w.heap.size w W) := fun W hW =>
    ⟨((h.below B4).below hW).c0, ((h.below B4).below hW).s1, n4.below hW, bel2 B4 hW⟩
  have US : Hid (∀ W, Below w.heap.size w W → Calls Try.prog 21 #[.pointer (some ⟨b, 0, none⟩)] W fun e w' => e = .returned (.int .i64 P.used) ∧ Below W.heap.size W w') := fun W hW => pused_ok b s k P W (h.below hW)
  have HB4 := Lib.hid B4
  have HW4 := Lib.hid hw4
  have hu := h.ok.used_le
  have hr := h.ok.room
  obtain ⟨s0, s1, _⟩ := HS.out w4 (Below.refl _ _)
  clear h B4 n4 hw4
  generalize P.used = U at *
  generalize P.room = R at *
  have hwr : IntKind.i64.wrap ((U : Int) + x) = U + x := by rw [IntKind.wrap_i64]; omega
  go_enter Try.func13, Try.ntmps13
  go_wp2_with (go_at_call 27; refine (pvalid_yes _ s _ (by rw [HW4.out]; exact s0)).mono ?_; rintro e w' ⟨rfl, rfl⟩)
  rw [HW4.out]
  go_region_held3 (fun W => W.cell? ⟨b, 0, none⟩ = some (.pointer (some ⟨s, 0, none⟩)) ∧ W.cell? ⟨s, 1, none⟩ = some (.int .i64 R)) (first | (exact ⟨s0, s1⟩) | (with_reducible exact hz1)) (first
    | (go_at_call 21; (with_reducible refine (US.out _ (bel_drew HB4.out)).mono ?_); rintro e w5 ⟨rfl, hb5⟩; have HS5 := HS.out w5 (bel2 (bel_drew (Below.refl _ w4)) hb5); have hz1 := And.intro HS5.1 HS5.2.1; have HB5 := Lib.hid HS5.2.2; clear hb5 HS5))
  all_goals
    obtain ⟨q1, q2⟩ := HB5.out
    have d0 := q1.cell 0
    have d1 := q1.cell 1
    have d2 := q1.cell 2
    have f0 := q1.frozen 0
    have f1 := q1.frozen 1
    have f2 := q1.frozen 2
    simp only [List.getElem?_toArray, List.getElem?_cons_zero, List.getElem?_cons_succ] at d0 d1 d2
    have HT := Lib.hid (three_put q1 (.int .i64 0) (.int .i64 0) (.int .u32 0))
    have HQ := Lib.hid q2
    clear q1 q2
    go_wp2
    have t0 := HT.out.cell 0
    have t1 := HT.out.cell 1
    have t2 := HT.out.cell 2
    simp only [List.getElem?_toArray, List.getElem?_cons_zero, List.getElem?_cons_succ] at t0 t1 t2
    refine bodyPost_ret (v := .tuple #[.agg #[.int .i64 0, .int .i64 0, .int .u32 0], .int .i64 4]) (by simp [results, Try.results13, go_sem, t0, t1, t2]) rfl ⟨rfl, ?_⟩
    exact ((HQ.out.setCell (p := ⟨_, _, none⟩) (by simp) _).setCell (p := ⟨_, _, none⟩) (by simp) _).setCell (p := ⟨_, _, none⟩) (by simp) _
theorem laid3 {W : World} {g : Nat} {t : TypeId} {a b c : Value} (h : Bk W g t #[a, b, c]) : W.cell? ⟨g, 0, none⟩ = some a ∧ W.cell? ⟨g, 1, none⟩ = some b ∧ W.cell? ⟨g, 2, none⟩ = some c ∧ W.frozen? ⟨g, 0, none⟩ = false ∧ W.frozen? ⟨g, 1, none⟩ = false ∧ W.frozen? ⟨g, 2, none⟩ = false := ⟨h.cell 0, h.cell 1, h.cell 2, h.frozen 0, h.frozen 1, h.frozen 2⟩
theorem TabW.cells_eq {w : World} {k : Nat} {T U : Tb} (h : TabW w k T) (e : T = U) : TabW w k U := by rw [← e]; exact h
set_option maxHeartbeats 2000000 in
theorem ppin_none (b s k : Nat) (P : Po) (x : Int) (w : World) (h : PW w b s k P) (h1 : 1 ≤ x) (h2 : x ≤ 65536) (h3 : (P.used : Int) + x ≤ P.room) (h4 : P.t.free = []) : Calls Try.prog 13 #[.pointer (some ⟨b, 0, none⟩), .int .i64 x] w fun e w' => e = .returned (.tuple #[.agg #[.int .i64 0, .int .i64 0, .int .u32 0], .int .i64 4]) ∧ PW w' b s k P ∧ Kept (fun g => g = s ∨ g = k) w w' := by
  obtain ⟨w4, hw4⟩ : ∃ w4, w.alloc (.cells #[.int .i64 0, .int .i64 0, .int .u32 0] 34) = w4 := ⟨_, rfl⟩
  have B4 : Below w.heap.size w w4 := by rw [← hw4]; exact (Below.refl _ w).alloc (Nat.le_refl _) _
  have n4 : Bk w4 w.heap.size 34 #[.int .i64 0, .int .i64 0, .int .u32 0] := by rw [← hw4]; exact Bk.new w _ _
  have HS : Hid (∀ W, Below w4.heap.size w4 W → W.cell? ⟨b, 0, none⟩ = some (.pointer (some ⟨s, 0, none⟩)) ∧ W.cell? ⟨s, 1, none⟩ = some (.int .i64 P.room) ∧ W.cell? ⟨s, 0, none⟩ = some (.pointer (some ⟨k, 0, none⟩)) ∧ Bk W w.heap.size 34 #[.int .i64 0, .int .i64 0, .int .u32 0] ∧ Below w.heap.size w W) := fun W hW =>
    ⟨((h.below B4).below hW).c0, ((h.below B4).below hW).s1, ((h.below B4).below hW).s0, n4.below hW, bel2 B4 hW⟩
  have US : Hid (∀ W, Below w.heap.size w W → Calls Try.prog 21 #[.pointer (some ⟨b, 0, none⟩)] W fun e w' => e = .returned (.int .i64 P.used) ∧ Below W.heap.size W w') := fun W hW => pused_ok b s k P W (h.below hW)
  have HB4 := Lib.hid B4
  have HW4 := Lib.hid hw4
  have TK : Hid (∀ W, Below w.heap.size w W → Calls Try.prog 28 #[.pointer (some ⟨k, 0, none⟩)] W fun e w' => e = .returned (.tuple #[.agg #[.int .i64 0, .int .u32 0], .int .i64 4]) ∧ PW w' b s k P ∧ Kept (· = k) W w' ∧ Kept (fun g => g = s ∨ g = k) w w') := fun W hW => by
    refine (take_ok k P.t W (h.below hW).tab).mono ?_
    rintro e w' ⟨rfl, hT, hk⟩
    have e1 : P.t.take = P.t := by unfold Tb.take; rw [h4]
    have e2 : P.t.tI = 0 := by unfold Tb.tI; rw [h4]
    have e3 : P.t.tG = 0 := by unfold Tb.tG; rw [h4]
    have e4 : P.t.tE = 4 := by unfold Tb.tE; rw [h4]
    rw [e2, e3, e4]
    rw [e1] at hT
    exact ⟨rfl, ⟨h.ok, (h.below hW).hb.kept hk h.bk, (h.below hW).hs.kept hk h.sk, hT⟩, hk, (Kept.of_below hW).trans (hk.mono fun _ _ e => .inr e)⟩
  have KT : Hid (k < w.heap.size) := h.tab.bt
  have FT : Hid (∀ g, PFoot b s k g → g < w.heap.size) := fun g hg => h.foot_lt hg
  have hu := h.ok.used_le
  have hr := h.ok.room
  obtain ⟨s0, s1, s2, _⟩ := HS.out w4 (Below.refl _ _)
  clear h B4 n4 hw4 h4
  generalize P.used = U at *
  generalize P.room = R at *
  have hwr : IntKind.i64.wrap ((U : Int) + x) = U + x := by rw [IntKind.wrap_i64]; omega
  go_enter Try.func13, Try.ntmps13
  go_wp2_with (go_at_call 27; refine (pvalid_yes _ s _ (by rw [HW4.out]; exact s0)).mono ?_; rintro e w' ⟨rfl, rfl⟩)
  rw [HW4.out]
  go_region_held3 (fun W => W.cell? ⟨b, 0, none⟩ = some (.pointer (some ⟨s, 0, none⟩)) ∧ W.cell? ⟨s, 1, none⟩ = some (.int .i64 R)) (first | (exact ⟨s0, s1⟩) | (with_reducible exact hz1)) (first
    | (go_at_call 21; (with_reducible refine (US.out _ (bel_drew HB4.out)).mono ?_); rintro e w5 ⟨rfl, hb5⟩; have HS5 := HS.out w5 (bel2 (bel_drew (Below.refl _ w4)) hb5); have hz1 := And.intro HS5.1 HS5.2.1; have HB5 := Lib.hid HS5.2.2; clear hb5 HS5))
  all_goals
    obtain ⟨z1, z2⟩ := hz1
    have z3 := HB5.out.1
    go_wp2_with (go_at_call 28; refine (TK.out w5 HB5.out.2.2).mono ?_; rintro e w6 ⟨rfl, hp, hk6, hk⟩; have HP := Lib.hid (And.intro hp hk); have HO := Lib.hid (HB5.out.2.1.kept hk6 (by have := KT.out; omega)); obtain ⟨d0, d1, d2, f0, f1, f2⟩ := laid3 HO.out; have hl6 := HO.out.lt; clear hp hk6 hk)
    have HT := Lib.hid ((three_put HO.out (.int .i64 0) (.int .i64 0) (.int .u32 0)).up (.cells #[.int .i64 0, .int .u32 0] 80))
    have t0 := HT.out.cell 0
    have t1 := HT.out.cell 1
    have t2 := HT.out.cell 2
    simp only [List.getElem?_toArray, List.getElem?_cons_zero, List.getElem?_cons_succ] at t0 t1 t2
    refine bodyPost_ret (v := .tuple #[.agg #[.int .i64 0, .int .i64 0, .int .u32 0], .int .i64 4]) (by simp [results, Try.results13, go_sem, t0, t1, t2]) rfl ⟨rfl, ?_⟩
    have hkp := (((((Kept.refl (· = w.heap.size) w6).put1 0 (.int .i64 0)).put1 1 (.int .i64 0)).put1 2 (.int .u32 0)).alloc (.cells #[.int .i64 0, .int .u32 0] 80))
    exact ⟨HP.out.1.kept hkp (fun g hg e => by have := FT.out g hg; omega), HP.out.2.self (hkp.mono fun g _ e => Or.inr (Nat.le_of_eq e.symm))⟩
end Go.Proofs.Ytjhgckaaaonbiaa
