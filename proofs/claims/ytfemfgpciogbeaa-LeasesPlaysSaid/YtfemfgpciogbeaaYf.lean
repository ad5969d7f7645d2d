/- The contract of the program's Grant. -/
import Derived.Test.YtfemfgpciogbeaaYe
namespace Go.Proofs.Ytfemfgpciogbeaa
open Go.RowKit

/-- What Grant says of a desk, and what it leaves. -/
def GraV (b k a : Nat) (D : Dk) (x now : Int) (w : World) (e : Ending) (w' : World) : Prop :=
  e = .returned (.tuple #[.agg #[.int .i64 (D.gK x now), .int .i64 (D.gI x now), .int .u32 (D.gG x now)], .int .i64 (D.gE x now)]) ∧ DkW w' b k a (D.grant x now) ∧ Kept (DFoot b k a) w w'
theorem dgrant_inv (p : Option Addr) (x now : Int) (w : World) (h : DInv w p) : Calls Try.prog 13 #[.pointer p, .int .i64 x, .int .i64 now] w fun e w' => e = .returned (.tuple #[.agg #[.int .i64 0, .int .i64 0, .int .u32 0], .int .i64 1]) ∧ Below w.heap.size w w' := by
  have H := Lib.hid (h.below ((Below.refl _ w).alloc (Nat.le_refl _) (.cells #[.int .i64 0, .int .i64 0, .int .u32 0] 33)))
  clear h
  go_enter Try.func13, Try.ntmps13
  go_wp2_with (go_at_call 38; refine (dvalid_no _ _ H.out).mono ?_; rintro e w' ⟨rfl, rfl⟩)
  refine bodyPost_ret (v := .tuple #[.agg #[.int .i64 0, .int .i64 0, .int .u32 0], .int .i64 1]) (by simp [results, Try.results13, go_sem]) rfl ⟨rfl, ?_⟩
  exact (Below.refl _ w).alloc (Nat.le_refl _) _
theorem dgrant_arg (b k : Nat) (x now : Int) (w : World) (hc : w.cell? ⟨b, 0, none⟩ = some (.pointer (some ⟨k, 0, none⟩))) (hx : ¬ (IsSpan x ∧ IsTime now)) : Calls Try.prog 13 #[.pointer (some ⟨b, 0, none⟩), .int .i64 x, .int .i64 now] w fun e w' => e = .returned (.tuple #[.agg #[.int .i64 0, .int .i64 0, .int .u32 0], .int .i64 2]) ∧ Below w.heap.size w w' := by
  have H := Lib.hid (cell_keeps ((Below.refl _ w).alloc (Nat.le_refl _) (.cells #[.int .i64 0, .int .i64 0, .int .u32 0] 33)) hc)
  clear hc
  by_cases h1 : IsSpan x
  · have S := Lib.hid h1
    have T : Hid (¬ IsTime now) := fun e => hx ⟨h1, e⟩
    clear hx h1
    go_enter Try.func13, Try.ntmps13
    go_wp2_with (first
      | (go_at_call 38; refine (dvalid_yes _ k _ H.out).mono ?_; rintro e w' ⟨rfl, rfl⟩)
      | (go_at_call 39; refine (span_yes _ _ S.out).mono ?_; rintro e w' ⟨rfl, rfl⟩)
      | (go_at_call 40; refine (time_no _ _ T.out).mono ?_; rintro e w' ⟨rfl, rfl⟩))
    refine bodyPost_ret (v := .tuple #[.agg #[.int .i64 0, .int .i64 0, .int .u32 0], .int .i64 2]) (by simp [results, Try.results13, go_sem]) rfl ⟨rfl, ?_⟩
    exact (Below.refl _ w).alloc (Nat.le_refl _) _
  · have S := Lib.hid h1
    clear hx h1
    go_enter Try.func13, Try.ntmps13
    go_wp2_with (first
      | (go_at_call 38; refine (dvalid_yes _ k _ H.out).mono ?_; rintro e w' ⟨rfl, rfl⟩)
      | (go_at_call 39; refine (span_no _ _ S.out).mono ?_; rintro e w' ⟨rfl, rfl⟩))
    refine bodyPost_ret (v := .tuple #[.agg #[.int .i64 0, .int .i64 0, .int .u32 0], .int .i64 2]) (by simp [results, Try.results13, go_sem]) rfl ⟨rfl, ?_⟩
    exact (Below.refl _ w).alloc (Nat.le_refl _) _
set_option maxHeartbeats 1000000 in
theorem dgrant_late (b k : Nat) (x now : Int) (w : World) (hc : w.cell? ⟨b, 0, none⟩ = some (.pointer (some ⟨k, 0, none⟩))) (hx : IsSpan x) (hn : IsTime now) (hl : 1099511627776 < now + x) : Calls Try.prog 13 #[.pointer (some ⟨b, 0, none⟩), .int .i64 x, .int .i64 now] w fun e w' => e = .returned (.tuple #[.agg #[.int .i64 0, .int .i64 0, .int .u32 0], .int .i64 17]) ∧ Below w.heap.size w w' := by
  have H := Lib.hid (cell_keeps ((Below.refl _ w).alloc (Nat.le_refl _) (.cells #[.int .i64 0, .int .i64 0, .int .u32 0] 33)) hc)
  have S := Lib.hid hx
  have T := Lib.hid hn
  have T2 : Hid (¬ IsTime (now + x)) := by unfold Hid IsTime; omega
  have hwr : IntKind.i64.wrap (now + x) = now + x := by obtain ⟨_, _⟩ := hx; obtain ⟨_, _⟩ := hn; rw [IntKind.wrap_i64]; omega
  clear hc hx hn
  go_enter Try.func13, Try.ntmps13
  go_wp2_with (first
    | (go_at_call 38; refine (dvalid_yes _ k _ H.out).mono ?_; rintro e w' ⟨rfl, rfl⟩)
    | (go_at_call 39; refine (span_yes _ _ S.out).mono ?_; rintro e w' ⟨rfl, rfl⟩)
    | (go_at_call 40; refine (time_yes _ _ T.out).mono ?_; rintro e w' ⟨rfl, rfl⟩)
    | (go_at_call 40; refine (time_no _ _ T2.out).mono ?_; rintro e w' ⟨rfl, rfl⟩))
  refine bodyPost_ret (v := .tuple #[.agg #[.int .i64 0, .int .i64 0, .int .u32 0], .int .i64 17]) (by simp [results, Try.results13, go_sem]) rfl ⟨rfl, ?_⟩
  exact (Below.refl _ w).alloc (Nat.le_refl _) _
/-- Three cells written. -/
theorem three_put {W : World} {g : Nat} {t : TypeId} {a b c : Value} (h : Bk W g t #[a, b, c]) (x y z : Value) : Bk (((W.setCell ⟨g, 0, none⟩ x).setCell ⟨g, 1, none⟩ y).setCell ⟨g, 2, none⟩ z) g t #[x, y, z] := ((h.put 0 x).put 1 y).put 2 z
theorem laid3 {W : World} {g : Nat} {t : TypeId} {a b c : Value} (h : Bk W g t #[a, b, c]) : W.cell? ⟨g, 0, none⟩ = some a ∧ W.cell? ⟨g, 1, none⟩ = some b ∧ W.cell? ⟨g, 2, none⟩ = some c ∧ W.frozen? ⟨g, 0, none⟩ = false ∧ W.frozen? ⟨g, 1, none⟩ = false ∧ W.frozen? ⟨g, 2, none⟩ = false := ⟨h.cell 0, h.cell 1, h.cell 2, h.frozen 0, h.frozen 1, h.frozen 2⟩
set_option maxHeartbeats 2000000 in
theorem dgrant_full (b k a : Nat) (D : Dk) (x now : Int) (w : World) (h : DkW w b k a D) (hx : IsSpan x) (hn : IsTime now) (hl : now + x ≤ 1099511627776) (h4 : D.t.free = []) : Calls Try.prog 13 #[.pointer (some ⟨b, 0, none⟩), .int .i64 x, .int .i64 now] w fun e w' => e = .returned (.tuple #[.agg #[.int .i64 0, .int .i64 0, .int .u32 0], .int .i64 4]) ∧ DkW w' b k a D ∧ Kept (DFoot b k a) w w' := by
  obtain ⟨w4, hw4⟩ : ∃ w4, w.alloc (.cells #[.int .i64 0, .int .i64 0, .int .u32 0] 33) = w4 := ⟨_, rfl⟩
  have B4 : Below w.heap.size w w4 := by rw [← hw4]; exact (Below.refl _ w).alloc (Nat.le_refl _) _
  have n4 : Bk w4 w.heap.size 33 #[.int .i64 0, .int .i64 0, .int .u32 0] := by rw [← hw4]; exact Bk.new w _ _
  have c0 := (h.below B4).c0
  have TK : Hid (Calls Try.prog 41 #[.pointer (some ⟨k, 0, none⟩)] w4 fun e w' => e = .returned (.tuple #[.agg #[.int .i64 0, .int .u32 0], .int .i64 4]) ∧ (DkW w' b k a D ∧ Kept (DFoot b k a) w w') ∧ Bk w' w.heap.size 33 #[.int .i64 0, .int .i64 0, .int .u32 0]) := by
    refine (take_ok k D.t w4 (h.below B4).tab).mono ?_
    rintro e w' ⟨rfl, hT, hk⟩
    have e1 : D.t.take = D.t := by unfold Tb.take; rw [h4]
    have e2 : D.t.tI = 0 := by unfold Tb.tI; rw [h4]
    have e3 : D.t.tG = 0 := by unfold Tb.tG; rw [h4]
    have e4 : D.t.tE = 4 := by unfold Tb.tE; rw [h4]
    rw [e2, e3, e4]
    rw [e1] at hT
    have hkl := h.tab.bt
    exact ⟨rfl, ⟨⟨h.ok, (h.below B4).hb.kept hk h.bk, (h.below B4).ha.kept hk (fun e => h.ka e.symm), hT⟩, (Kept.of_below B4).trans (hk.mono fun _ _ e => .inr (.inl e))⟩, n4.kept hk (by omega)⟩
  have FT : Hid (∀ g, DFoot b k a g → g < w.heap.size) := fun g hg => h.foot_lt hg
  have HW4 := Lib.hid hw4
  have S := Lib.hid hx
  have T := Lib.hid hn
  have T2 : Hid (IsTime (now + x)) := by obtain ⟨_, _⟩ := hx; obtain ⟨_, _⟩ := hn; unfold Hid IsTime; omega
  have hwr : IntKind.i64.wrap (now + x) = now + x := by obtain ⟨_, _⟩ := hx; obtain ⟨_, _⟩ := hn; rw [IntKind.wrap_i64]; omega
  rw [← hw4] at c0 TK
  clear h B4 n4 hw4 h4 hx hn
  go_enter Try.func13, Try.ntmps13
  go_wp2_with (first
    | (go_at_call 38; refine (dvalid_yes _ k _ c0).mono ?_; rintro e w' ⟨rfl, rfl⟩)
    | (go_at_call 39; refine (span_yes _ _ S.out).mono ?_; rintro e w' ⟨rfl, rfl⟩)
    | (go_at_call 40; refine (time_yes _ _ T.out).mono ?_; rintro e w' ⟨rfl, rfl⟩)
    | (go_at_call 40; refine (time_yes _ _ T2.out).mono ?_; rintro e w' ⟨rfl, rfl⟩)
    | (go_at_call 41; refine TK.out.mono ?_; rintro e w6 ⟨rfl, hp, hO⟩; have HP := Lib.hid hp; have HO := Lib.hid hO; obtain ⟨d0, d1, d2, f0, f1, f2⟩ := laid3 hO; have hl6 := hO.lt; clear hp hO))
  have HT := Lib.hid ((three_put HO.out (.int .i64 0) (.int .i64 0) (.int .u32 0)).up (.cells #[.int .i64 0, .int .u32 0] 86))
  have t0 := HT.out.cell 0
  have t1 := HT.out.cell 1
  have t2 := HT.out.cell 2
  simp only [List.getElem?_toArray, List.getElem?_cons_zero, List.getElem?_cons_succ] at t0 t1 t2
  refine bodyPost_ret (v := .tuple #[.agg #[.int .i64 0, .int .i64 0, .int .u32 0], .int .i64 4]) (by simp [results, Try.results13, go_sem, t0, t1, t2]) rfl ⟨rfl, ?_⟩
  have hkp := (((((Kept.refl (· = w.heap.size) w6).put1 0 (.int .i64 0)).put1 1 (.int .i64 0)).put1 2 (.int .u32 0)).alloc (.cells #[.int .i64 0, .int .u32 0] 86))
  exact ⟨HP.out.1.kept hkp (fun g hg e => by have := FT.out g hg; omega), HP.out.2.self (hkp.mono fun g _ e => Or.inr (Nat.le_of_eq e.symm))⟩
theorem dtook_put {w : World} {b k a i y : Nat} {D : Dk} (h : DkW w b k a ⟨D.t.took i, D.u⟩) (hy : y ≤ 1099511627776) : DkW (w.setCell ⟨a, i, none⟩ (.int .i64 y)) b k a (D.took i y) := duntil h hy
set_option maxHeartbeats 4000000 in
theorem dgrant_yes (b k a : Nat) (D : Dk) (x now : Int) (w : World) (h : DkW w b k a D) (hx : IsSpan x) (hn : IsTime now) (hl : now + x ≤ 1099511627776) (i : Nat) (r : List Nat) (h4 : D.t.free = i :: r) : Calls Try.prog 13 #[.pointer (some ⟨b, 0, none⟩), .int .i64 x, .int .i64 now] w fun e w' => e = .returned (.tuple #[.agg #[.int .i64 3, .int .i64 i, .int .u32 (D.t.g i)], .int .i64 0]) ∧ DkW w' b k a (D.took i (now + x).toNat) ∧ Kept (DFoot b k a) w w' := by
  obtain ⟨hin, _⟩ := Tb.free_lt h4
  have hi := h.ok.hi
  have hg1 := h.ok.t.gm i
  obtain ⟨w4, hw4⟩ : ∃ w4, w.alloc (.cells #[.int .i64 0, .int .i64 0, .int .u32 0] 33) = w4 := ⟨_, rfl⟩
  have B4 : Below w.heap.size w w4 := by rw [← hw4]; exact (Below.refl _ w).alloc (Nat.le_refl _) _
  have n4 : Bk w4 w.heap.size 33 #[.int .i64 0, .int .i64 0, .int .u32 0] := by rw [← hw4]; exact Bk.new w _ _
  have c0 := (h.below B4).c0
  have TK : Hid (Calls Try.prog 41 #[.pointer (some ⟨k, 0, none⟩)] w4 fun e w' => e = .returned (.tuple #[.agg #[.int .i64 i, .int .u32 (D.t.g i)], .int .i64 0]) ∧ (DkW w' b k a ⟨D.t.took i, D.u⟩ ∧ Kept (DFoot b k a) w w') ∧ Bk w' w.heap.size 33 #[.int .i64 0, .int .i64 0, .int .u32 0]) := by
    refine (take_ok k D.t w4 (h.below B4).tab).mono ?_
    rintro e w' ⟨rfl, hT, hk⟩
    have e1 : D.t.take = D.t.took i := by unfold Tb.take; rw [h4]
    have e2 : D.t.tI = i := by unfold Tb.tI; rw [h4]
    have e3 : D.t.tG = D.t.g i := by unfold Tb.tG; rw [h4]
    have e4 : D.t.tE = 0 := by unfold Tb.tE; rw [h4]
    rw [e2, e3, e4]
    rw [e1] at hT
    have hkl := h.tab.bt
    exact ⟨rfl, ⟨⟨⟨h.ok.t.took i, h.ok.hi, h.ok.u⟩, (h.below B4).hb.kept hk h.bk, (h.below B4).ha.kept hk (fun e => h.ka e.symm), hT⟩, (Kept.of_below B4).trans (hk.mono fun _ _ e => .inr (.inl e))⟩, n4.kept hk (by omega)⟩
  have FT : Hid (∀ g, DFoot b k a g → g < w.heap.size) := fun g hg => h.foot_lt hg
  have HW4 := Lib.hid hw4
  have S := Lib.hid hx
  have T := Lib.hid hn
  have T2 : Hid (IsTime (now + x)) := by obtain ⟨_, _⟩ := hx; obtain ⟨_, _⟩ := hn; unfold Hid IsTime; omega
  have hwr : IntKind.i64.wrap (now + x) = now + x := by obtain ⟨_, _⟩ := hx; obtain ⟨_, _⟩ := hn; rw [IntKind.wrap_i64]; omega
  obtain ⟨y, hy⟩ : ∃ y : Nat, (now + x).toNat = y := ⟨_, rfl⟩
  have HY : Hid (now + x = (y : Int) ∧ y ≤ 1099511627776) := by obtain ⟨_, _⟩ := hx; obtain ⟨_, _⟩ := hn; unfold Hid; omega
  rw [hy]
  have hi64 : (i : Int) < 64 := by omega
  have hiN : i < 64 := by omega
  rw [← hw4] at c0 TK
  clear h B4 n4 hw4 h4 hx hn hy
  obtain ⟨G, hG⟩ : ∃ G, D.t.g i = G := ⟨_, rfl⟩
  rw [hG] at hg1 TK ⊢
  obtain ⟨M, hM⟩ : ∃ M, D.u i = M := ⟨_, rfl⟩
  have HM := Lib.hid hM
  clear hG hM
  go_enter Try.func13, Try.ntmps13
  go_wp2_with (first
    | (go_at_call 38; refine (dvalid_yes _ k _ c0).mono ?_; rintro e w' ⟨rfl, rfl⟩)
    | (go_at_call 39; refine (span_yes _ _ S.out).mono ?_; rintro e w' ⟨rfl, rfl⟩)
    | (go_at_call 40; refine (time_yes _ _ T.out).mono ?_; rintro e w' ⟨rfl, rfl⟩)
    | (go_at_call 40; refine (time_yes _ _ T2.out).mono ?_; rintro e w' ⟨rfl, rfl⟩)
    | (go_at_call 41; refine TK.out.mono ?_; rintro e w6 ⟨rfl, hp, hO⟩; have HP := Lib.hid hp; have HO := Lib.hid hO; clear hp hO))
  obtain ⟨W8, h8⟩ : ∃ W8, w6.alloc (.cells #[.int .i64 i, .int .u32 G] 86) = W8 := ⟨_, rfl⟩
  obtain ⟨I, hI⟩ : ∃ I, w6.heap.size = I := ⟨_, rfl⟩
  have p8 : DkW W8 b k a ⟨D.t.took i, D.u⟩ := by rw [← h8]; exact HP.out.1.below ((Below.refl _ _).alloc (Nat.le_refl _) _)
  have o8 : Bk W8 w.heap.size 33 #[.int .i64 0, .int .i64 0, .int .u32 0] := by rw [← h8]; exact HO.out.up _
  have i8 : Bk W8 I 86 #[.int .i64 i, .int .u32 G] := by rw [← h8, ← hI]; exact Bk.new w6 _ _
  have k8 : Kept (DFoot b k a) w W8 := by rw [← h8]; exact HP.out.2.alloc _
  have hIg : w.heap.size < I := by rw [← hI]; exact HO.out.lt
  rw [h8, hI]
  clear h8 hI HP HO c0 TK
  have x0 := p8.c1
  have x1 := p8.ca hiN
  have x2 := p8.fz i
  have x5 := i8.cell 0
  simp only [List.getElem?_toArray, List.getElem?_cons_zero, HM.out] at x1 x5
  have HL := Lib.hid (And.intro p8 (And.intro o8 (And.intro i8 (And.intro k8 hIg))))
  clear p8 o8 i8 k8 hIg
  go_region
  obtain ⟨W9, h9⟩ : ∃ W9, (W8.setCell ⟨a, i, none⟩ (.int .i64 (now + x))).drew = W9 := ⟨_, rfl⟩
  obtain ⟨p8, o8, i8, k8, hIg⟩ := HL.out
  have e9 : ∀ g, g ≠ a → W9.heap[g]? = W8.heap[g]? := fun g hg => by rw [← h9]; exact Below.heap_setCell _ _ _ _ hg
  have p9 : DkW W9 b k a (D.took i y) := by
    have := dtook_put p8 HY.out.2
    rw [← HY.out.1] at this
    rw [← h9]; exact this.drewN 1
  have hs1 : a ≠ w.heap.size := by have := FT.out a (.inr (.inr rfl)); omega
  have hs2 : a ≠ I := by have := FT.out a (.inr (.inr rfl)); omega
  have o9 := o8.same (e9 w.heap.size (fun e => hs1 e.symm))
  have i9 := i8.same (e9 I (fun e => hs2 e.symm))
  have k9 : Kept (DFoot b k a) w W9 := by rw [← h9]; exact (k8.put (p := ⟨a, i, none⟩) (.inr (.inr (.inr rfl))) _).drew
  rw [h9]
  clear h9 e9 p8 o8 i8 k8 HL x0 x1 x2 x5 hs1 hs2
  have j0 := i9.cell 0
  have j1 := i9.cell 1
  simp only [List.getElem?_toArray, List.getElem?_cons_zero, List.getElem?_cons_succ] at j0 j1
  have HL := Lib.hid (And.intro p9 (And.intro o9 (And.intro k9 (And.intro hIg i9.lt))))
  clear p9 o9 i9 k9 hIg
  go_wp2_with (go_at_call 42; refine (lease_ok i G W9 (by omega) (by omega) (by omega) (by omega)).mono ?_; rintro e w10 ⟨rfl, hb10⟩; have HB10 := Lib.hid hb10; obtain ⟨d0, d1, d2, f0, f1, f2⟩ := laid3 (HL.out.2.1.below hb10); clear hb10)
  have HO := Lib.hid (HL.out.2.1.below HB10.out)
  have t := three_put HO.out (.int .i64 3) (.int .i64 i) (.int .u32 G)
  have t0 := t.cell 0
  have t1 := t.cell 1
  have t2 := t.cell 2
  simp only [List.getElem?_toArray, List.getElem?_cons_zero, List.getElem?_cons_succ] at t0 t1 t2
  refine bodyPost_ret (v := .tuple #[.agg #[.int .i64 3, .int .i64 i, .int .u32 G], .int .i64 0]) (by simp [results, Try.results13, go_sem, t0, t1, t2]) rfl ⟨rfl, ?_⟩
  have hkp := ((((Kept.refl (· = w.heap.size) w10).put1 0 (.int .i64 3)).put1 1 (.int .i64 i)).put1 2 (.int .u32 G))
  exact ⟨(HL.out.1.below HB10.out).kept hkp (fun g hg e => by have := FT.out g hg; omega), (HL.out.2.2.1.trans (Kept.of_below HB10.out)).self (hkp.mono fun g _ e => Or.inr (Nat.le_of_eq e.symm))⟩
/-- Grant, whatever is asked. -/
theorem dgrant_ok (b k a : Nat) (D : Dk) (x now : Int) (w : World) (h : DkW w b k a D) : Calls Try.prog 13 #[.pointer (some ⟨b, 0, none⟩), .int .i64 x, .int .i64 now] w (GraV b k a D x now w) := by
  unfold GraV
  rcases D.g_cases x now with ⟨h1, h2⟩ | ⟨h1, h2, h3, h4⟩ | ⟨h1, h2, h3, h4, h5⟩ | ⟨h1, h2, h3, i, r, h4, h5⟩
  · obtain ⟨e1, e2, e3, e4⟩ := Dk.grant_ne (D := D) (x := x) (now := now) (by omega)
    rw [e1, e2, e3, e4, h2]
    exact (dgrant_arg b k x now w h.c0 h1).mono fun _ _ ⟨g1, g2⟩ => ⟨g1, h.below g2, Kept.of_below g2⟩
  · obtain ⟨e1, e2, e3, e4⟩ := Dk.grant_ne (D := D) (x := x) (now := now) (by omega)
    rw [e1, e2, e3, e4, h4]
    exact (dgrant_late b k x now w h.c0 h1 h2 h3).mono fun _ _ ⟨g1, g2⟩ => ⟨g1, h.below g2, Kept.of_below g2⟩
  · obtain ⟨e1, e2, e3, e4⟩ := Dk.grant_ne (D := D) (x := x) (now := now) (by omega)
    rw [e1, e2, e3, e4, h5]
    exact dgrant_full b k a D x now w h h1 h2 h3 h4
  · obtain ⟨e1, e2, e3, e4⟩ := Dk.grant_zero h5 h4
    rw [e1, e2, e3, e4, h5]
    exact dgrant_yes b k a D x now w h h1 h2 h3 i r h4
end Go.Proofs.Ytfemfgpciogbeaa
