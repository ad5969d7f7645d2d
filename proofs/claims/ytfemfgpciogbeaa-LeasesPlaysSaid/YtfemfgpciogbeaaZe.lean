/- The contract of the document's Grant. -/
import Derived.Test.YtfemfgpciogbeaaZd
namespace Go.Proofs.Ytfemfgpciogbeaa
open Go.RowKit

def EGraV (q c d g : Nat) (D : Dk) (x now : Int) (w : World) (e : Ending) (w' : World) : Prop :=
  e = .returned (.tuple #[.agg #[.int .i64 (D.gK x now), .int .i64 (D.gI x now), .int .u32 (D.gG x now)], .int .i64 (D.gE x now)]) ∧ QW w' q c d g (D.grant x now) ∧ Kept (QFt q c d g) w w'
theorem egrant_nil (x now : Int) (w : World) : Calls Try.prog 14 #[.pointer none, .int .i64 x, .int .i64 now] w fun e w' => e = .returned (.tuple #[.agg #[.int .i64 0, .int .i64 0, .int .u32 0], .int .i64 1]) ∧ Below w.heap.size w w' := by
  go_enter Try.func14, Try.ntmps14
  go_wp2_with (go_at_call 43; refine (evalid_nil _).mono ?_; rintro e w' ⟨rfl, rfl⟩)
  refine bodyPost_ret (v := .tuple #[.agg #[.int .i64 0, .int .i64 0, .int .u32 0], .int .i64 1]) (by simp [results, Try.results14, go_sem]) rfl ⟨rfl, ?_⟩
  exact (Below.refl _ w).alloc (Nat.le_refl _) _
theorem egrant_arg (q : Nat) (x now : Int) (w : World) (hc : w.cell? ⟨q, 0, none⟩ = some (.bool true)) (hx : ¬ (IsSpan x ∧ IsTime now)) : Calls Try.prog 14 #[.pointer (some ⟨q, 0, none⟩), .int .i64 x, .int .i64 now] w fun e w' => e = .returned (.tuple #[.agg #[.int .i64 0, .int .i64 0, .int .u32 0], .int .i64 2]) ∧ Below w.heap.size w w' := by
  have H := Lib.hid (cell_keeps ((Below.refl _ w).alloc (Nat.le_refl _) (.cells #[.int .i64 0, .int .i64 0, .int .u32 0] 33)) hc)
  clear hc
  by_cases h1 : IsSpan x
  · have S := Lib.hid h1
    have T : Hid (¬ IsTime now) := fun e => hx ⟨h1, e⟩
    clear hx h1
    go_enter Try.func14, Try.ntmps14
    go_wp2_with (first
      | (go_at_call 43; refine (evalid_yes _ _ H.out).mono ?_; rintro e w' ⟨rfl, rfl⟩)
      | (go_at_call 44; refine (espan_yes _ _ S.out).mono ?_; rintro e w' ⟨rfl, rfl⟩)
      | (go_at_call 45; refine (etime_no _ _ T.out).mono ?_; rintro e w' ⟨rfl, rfl⟩))
    refine bodyPost_ret (v := .tuple #[.agg #[.int .i64 0, .int .i64 0, .int .u32 0], .int .i64 2]) (by simp [results, Try.results14, go_sem]) rfl ⟨rfl, ?_⟩
    exact (Below.refl _ w).alloc (Nat.le_refl _) _
  · have S := Lib.hid h1
    clear hx h1
    go_enter Try.func14, Try.ntmps14
    go_wp2_with (first
      | (go_at_call 43; refine (evalid_yes _ _ H.out).mono ?_; rintro e w' ⟨rfl, rfl⟩)
      | (go_at_call 44; refine (espan_no _ _ S.out).mono ?_; rintro e w' ⟨rfl, rfl⟩))
    refine bodyPost_ret (v := .tuple #[.agg #[.int .i64 0, .int .i64 0, .int .u32 0], .int .i64 2]) (by simp [results, Try.results14, go_sem]) rfl ⟨rfl, ?_⟩
    exact (Below.refl _ w).alloc (Nat.le_refl _) _
set_option maxHeartbeats 1000000 in
theorem egrant_late (q : Nat) (x now : Int) (w : World) (hc : w.cell? ⟨q, 0, none⟩ = some (.bool true)) (hx : IsSpan x) (hn : IsTime now) (hl : 1099511627776 < now + x) : Calls Try.prog 14 #[.pointer (some ⟨q, 0, none⟩), .int .i64 x, .int .i64 now] w fun e w' => e = .returned (.tuple #[.agg #[.int .i64 0, .int .i64 0, .int .u32 0], .int .i64 17]) ∧ Below w.heap.size w w' := by
  have H := Lib.hid (cell_keeps ((Below.refl _ w).alloc (Nat.le_refl _) (.cells #[.int .i64 0, .int .i64 0, .int .u32 0] 33)) hc)
  have S := Lib.hid hx
  have T := Lib.hid hn
  have hwr : IntKind.i64.wrap (now + x) = now + x := by obtain ⟨_, _⟩ := hx; obtain ⟨_, _⟩ := hn; rw [IntKind.wrap_i64]; omega
  clear hc hx hn
  go_enter Try.func14, Try.ntmps14
  go_wp2_with (first
    | (go_at_call 43; refine (evalid_yes _ _ H.out).mono ?_; rintro e w' ⟨rfl, rfl⟩)
    | (go_at_call 44; refine (espan_yes _ _ S.out).mono ?_; rintro e w' ⟨rfl, rfl⟩)
    | (go_at_call 45; refine (etime_yes _ _ T.out).mono ?_; rintro e w' ⟨rfl, rfl⟩))
  refine bodyPost_ret (v := .tuple #[.agg #[.int .i64 0, .int .i64 0, .int .u32 0], .int .i64 17]) (by simp [results, Try.results14, go_sem]) rfl ⟨rfl, ?_⟩
  exact (Below.refl _ w).alloc (Nat.le_refl _) _
/-- Take, from within Grant. -/
theorem etake_in {w w4 : World} {q c d g : Nat} {D : Dk} {T : Tb} (h : QW w q c d g D) (B4 : Below w.heap.size w w4) (n4 : Bk w4 w.heap.size 33 #[.int .i64 0, .int .i64 0, .int .u32 0]) (hT : D.t.take = T) (ho : T.Ok) :
    Calls Try.prog 46 #[.pointer (some ⟨c, 0, none⟩)] w4 fun e w' => e = .returned (.tuple #[.agg #[.int .i64 D.t.tI, .int .u32 D.t.tG], .int .i64 D.t.tE]) ∧ (QW w' q c d g ⟨T, D.u⟩ ∧ Kept (QFt q c d g) w w') ∧ Bk w' w.heap.size 33 #[.int .i64 0, .int .i64 0, .int .u32 0] := by
  refine (rtake_ok c d D.t w4 (h.below B4).tab).mono ?_
  rintro e w' ⟨rfl, h1, hk⟩
  rw [hT] at h1
  have hn : T.n = D.t.n := by rw [← hT]; exact Tb.take_n _
  have hd := h.tab.dt
  exact ⟨rfl, ⟨(h.below B4).tabbed hk h1 hn ⟨ho, by show T.n ≤ 64; rw [hn]; exact h.ok.hi, h.ok.u⟩, (Kept.of_below B4).trans (hk.mono fun _ _ e => .inr (.inr (.inl e)))⟩, n4.kept hk (by omega)⟩
set_option maxHeartbeats 2000000 in
theorem egrant_full (q c d g : Nat) (D : Dk) (x now : Int) (w : World) (h : QW w q c d g D) (hx : IsSpan x) (hn : IsTime now) (hl : now + x ≤ 1099511627776) (h4 : D.t.free = []) : Calls Try.prog 14 #[.pointer (some ⟨q, 0, none⟩), .int .i64 x, .int .i64 now] w fun e w' => e = .returned (.tuple #[.agg #[.int .i64 0, .int .i64 0, .int .u32 0], .int .i64 4]) ∧ QW w' q c d g D ∧ Kept (QFt q c d g) w w' := by
  obtain ⟨w4, hw4⟩ : ∃ w4, w.alloc (.cells #[.int .i64 0, .int .i64 0, .int .u32 0] 33) = w4 := ⟨_, rfl⟩
  have B4 : Below w.heap.size w w4 := by rw [← hw4]; exact (Below.refl _ w).alloc (Nat.le_refl _) _
  have n4 : Bk w4 w.heap.size 33 #[.int .i64 0, .int .i64 0, .int .u32 0] := by rw [← hw4]; exact Bk.new w _ _
  obtain ⟨cap, c0, c1, _⟩ := (h.below B4).cells
  have TK : Hid (Calls Try.prog 46 #[.pointer (some ⟨c, 0, none⟩)] w4 fun e w' => e = .returned (.tuple #[.agg #[.int .i64 0, .int .u32 0], .int .i64 4]) ∧ (QW w' q c d g D ∧ Kept (QFt q c d g) w w') ∧ Bk w' w.heap.size 33 #[.int .i64 0, .int .i64 0, .int .u32 0]) := by
    have t := etake_in h B4 n4 (T := D.t) (by unfold Tb.take; rw [h4]) h.ok.t
    have e2 : D.t.tI = 0 := by unfold Tb.tI; rw [h4]
    have e3 : D.t.tG = 0 := by unfold Tb.tG; rw [h4]
    have e4 : D.t.tE = 4 := by unfold Tb.tE; rw [h4]
    rw [e2, e3, e4] at t
    exact t
  have FT : Hid (∀ z, QFt q c d g z → z < w.heap.size) := fun z hz => h.foot_lt hz
  have HW4 := Lib.hid hw4
  have S := Lib.hid hx
  have T := Lib.hid hn
  have hwr : IntKind.i64.wrap (now + x) = now + x := by obtain ⟨_, _⟩ := hx; obtain ⟨_, _⟩ := hn; rw [IntKind.wrap_i64]; omega
  rw [← hw4] at c0 c1 TK
  clear h B4 n4 hw4 h4 hx hn
  go_enter Try.func14, Try.ntmps14
  go_wp2_with (first
    | (go_at_call 43; refine (evalid_yes _ _ c0).mono ?_; rintro e w' ⟨rfl, rfl⟩)
    | (go_at_call 44; refine (espan_yes _ _ S.out).mono ?_; rintro e w' ⟨rfl, rfl⟩)
    | (go_at_call 45; refine (etime_yes _ _ T.out).mono ?_; rintro e w' ⟨rfl, rfl⟩)
    | (go_at_call 46; refine TK.out.mono ?_; rintro e w6 ⟨rfl, hp, hO⟩; have HP := Lib.hid hp; have HO := Lib.hid hO; obtain ⟨d0, d1, d2, f0, f1, f2⟩ := laid3 hO; have hl6 := hO.lt; clear hp hO))
  have HT := Lib.hid ((three_put HO.out (.int .i64 0) (.int .i64 0) (.int .u32 0)).up (.cells #[.int .i64 0, .int .u32 0] 86))
  have t0 := HT.out.cell 0
  have t1 := HT.out.cell 1
  have t2 := HT.out.cell 2
  simp only [List.getElem?_toArray, List.getElem?_cons_zero, List.getElem?_cons_succ] at t0 t1 t2
  refine bodyPost_ret (v := .tuple #[.agg #[.int .i64 0, .int .i64 0, .int .u32 0], .int .i64 4]) (by simp [results, Try.results14, go_sem, t0, t1, t2]) rfl ⟨rfl, ?_⟩
  have hkp := (((((Kept.refl (· = w.heap.size) w6).put1 0 (.int .i64 0)).put1 1 (.int .i64 0)).put1 2 (.int .u32 0)).alloc (.cells #[.int .i64 0, .int .u32 0] 86))
  exact ⟨HP.out.1.kept hkp (fun g hg e => by have := FT.out g hg; omega), HP.out.2.self (hkp.mono fun g _ e => Or.inr (Nat.le_of_eq e.symm))⟩
set_option maxHeartbeats 4000000 in
theorem egrant_yes (q c d g : Nat) (D : Dk) (x now : Int) (w : World) (h : QW w q c d g D) (hx : IsSpan x) (hn : IsTime now) (hl : now + x ≤ 1099511627776) (i : Nat) (r : List Nat) (h4 : D.t.free = i :: r) : Calls Try.prog 14 #[.pointer (some ⟨q, 0, none⟩), .int .i64 x, .int .i64 now] w fun e w' => e = .returned (.tuple #[.agg #[.int .i64 3, .int .i64 i, .int .u32 (D.t.g i)], .int .i64 0]) ∧ QW w' q c d g (D.took i (now + x).toNat) ∧ Kept (QFt q c d g) w w' := by
  obtain ⟨hin, _⟩ := Tb.free_lt h4
  have hi := h.ok.hi
  have hg1 := h.ok.t.gm i
  obtain ⟨w4, hw4⟩ : ∃ w4, w.alloc (.cells #[.int .i64 0, .int .i64 0, .int .u32 0] 33) = w4 := ⟨_, rfl⟩
  have B4 : Below w.heap.size w w4 := by rw [← hw4]; exact (Below.refl _ w).alloc (Nat.le_refl _) _
  have n4 : Bk w4 w.heap.size 33 #[.int .i64 0, .int .i64 0, .int .u32 0] := by rw [← hw4]; exact Bk.new w _ _
  obtain ⟨_, c0, c1, _⟩ := (h.below B4).cells
  have TK : Hid (Calls Try.prog 46 #[.pointer (some ⟨c, 0, none⟩)] w4 fun e w' => e = .returned (.tuple #[.agg #[.int .i64 i, .int .u32 (D.t.g i)], .int .i64 0]) ∧ (QW w' q c d g ⟨D.t.took i, D.u⟩ ∧ Kept (QFt q c d g) w w') ∧ Bk w' w.heap.size 33 #[.int .i64 0, .int .i64 0, .int .u32 0]) := by
    have t := etake_in h B4 n4 (T := D.t.took i) (by unfold Tb.take; rw [h4]) (h.ok.t.took i)
    have e2 : D.t.tI = i := by unfold Tb.tI; rw [h4]
    have e3 : D.t.tG = D.t.g i := by unfold Tb.tG; rw [h4]
    have e4 : D.t.tE = 0 := by unfold Tb.tE; rw [h4]
    rw [e2, e3, e4] at t
    exact t
  have FT : Hid (∀ z, QFt q c d g z → z < w.heap.size) := fun z hz => h.foot_lt hz
  have HW4 := Lib.hid hw4
  have S := Lib.hid hx
  have T := Lib.hid hn
  have hwr : IntKind.i64.wrap (now + x) = now + x := by obtain ⟨_, _⟩ := hx; obtain ⟨_, _⟩ := hn; rw [IntKind.wrap_i64]; omega
  obtain ⟨y, hy⟩ : ∃ y : Nat, (now + x).toNat = y := ⟨_, rfl⟩
  have HY : Hid (now + x = (y : Int) ∧ y ≤ 1099511627776) := by obtain ⟨_, _⟩ := hx; obtain ⟨_, _⟩ := hn; unfold Hid; omega
  rw [hy]
  have hi64 : (i : Int) < 64 := by omega
  rw [← hw4] at c0 c1 TK
  obtain ⟨n, hnn⟩ : ∃ n, D.t.n = n := ⟨_, rfl⟩
  rw [hnn] at hin
  have HN : Hid ((⟨D.t.took i, D.u⟩ : Dk).t.n = n) := hnn
  have hinz : (i : Int) < n := by omega
  clear h B4 n4 hw4 h4 hx hn hy hi hnn
  obtain ⟨G, hG⟩ : ∃ G, D.t.g i = G := ⟨_, rfl⟩
  rw [hG] at hg1 TK ⊢
  obtain ⟨M, hM⟩ : ∃ M, D.u i = M := ⟨_, rfl⟩
  have HM := Lib.hid hM
  clear hG hM
  go_enter Try.func14, Try.ntmps14
  go_wp2_with (first
    | (go_at_call 43; refine (evalid_yes _ _ c0).mono ?_; rintro e w' ⟨rfl, rfl⟩)
    | (go_at_call 44; refine (espan_yes _ _ S.out).mono ?_; rintro e w' ⟨rfl, rfl⟩)
    | (go_at_call 45; refine (etime_yes _ _ T.out).mono ?_; rintro e w' ⟨rfl, rfl⟩)
    | (go_at_call 46; refine TK.out.mono ?_; rintro e w6 ⟨rfl, hp, hO⟩; have HP := Lib.hid hp; have HO := Lib.hid hO; clear hp hO))
  obtain ⟨W8, h8⟩ : ∃ W8, w6.alloc (.cells #[.int .i64 i, .int .u32 G] 86) = W8 := ⟨_, rfl⟩
  obtain ⟨I, hI⟩ : ∃ I, w6.heap.size = I := ⟨_, rfl⟩
  have p8 : QW W8 q c d g ⟨D.t.took i, D.u⟩ := by rw [← h8]; exact HP.out.1.below ((Below.refl _ _).alloc (Nat.le_refl _) _)
  have o8 : Bk W8 w.heap.size 33 #[.int .i64 0, .int .i64 0, .int .u32 0] := by rw [← h8]; exact HO.out.up _
  have i8 : Bk W8 I 86 #[.int .i64 i, .int .u32 G] := by rw [← h8, ← hI]; exact Bk.new w6 _ _
  have k8 : Kept (QFt q c d g) w W8 := by rw [← h8]; exact HP.out.2.alloc _
  have hIg : w.heap.size < I := by rw [← hI]; exact HO.out.lt
  rw [h8, hI]
  clear h8 hI HP HO c0 c1 TK
  obtain ⟨cap, x6, _, x0, x7, x8⟩ := p8.cells
  rw [HN.out] at x0 x7
  obtain ⟨x1, x2, x3⟩ := p8.ci (i := i) (by rw [HN.out]; exact hin)
  have x9 : q < W8.heap.size := World.block_lt_of_cell? _ _ x0
  have x10 := i8.lt
  have x5 := i8.cell 0
  simp only [List.getElem?_toArray, List.getElem?_cons_zero, HM.out] at x1 x5
  have HL := Lib.hid (And.intro p8 (And.intro o8 (And.intro i8 (And.intro k8 hIg))))
  clear p8 o8 i8 k8 hIg
  go_region
  obtain ⟨W9, h9⟩ : ∃ W9, (W8.setCell ⟨g, i, none⟩ (.int .i64 (now + x))).drew = W9 := ⟨_, rfl⟩
  obtain ⟨p8, o8, i8, k8, hIg⟩ := HL.out
  have e9 : ∀ z, z ≠ g → W9.heap[z]? = W8.heap[z]? := fun z hz => by rw [← h9]; exact Below.heap_setCell _ _ _ _ hz
  have p9 : QW W9 q c d g (D.took i y) := by
    have := (p8.put (i := i) (y := y) (by rw [HN.out]; exact hin) HY.out.2).1
    rw [← HY.out.1] at this
    rw [← h9]; exact this.same fun _ _ => rfl
  have hs1 : g ≠ w.heap.size := by have := FT.out g (.inr (.inr (.inr rfl))); omega
  have hs2 : g ≠ I := by have := FT.out g (.inr (.inr (.inr rfl))); omega
  have o9 := o8.same (e9 w.heap.size (fun e => hs1 e.symm))
  have i9 := i8.same (e9 I (fun e => hs2 e.symm))
  have k9 : Kept (QFt q c d g) w W9 := by rw [← h9]; exact (k8.put (p := ⟨g, i, none⟩) (.inr (.inr (.inr (.inr rfl)))) _).drew
  rw [h9]
  clear h9 e9 p8 o8 i8 k8 HL x0 x1 x2 x3 x5 x6 x7 x8 x9 x10 hs1 hs2
  have j0 := i9.cell 0
  have j1 := i9.cell 1
  have j2 := i9.lt
  simp only [List.getElem?_toArray, List.getElem?_cons_zero, List.getElem?_cons_succ] at j0 j1
  obtain ⟨d0, d1, d2, f0, f1, f2⟩ := laid3 o9
  have d3 := o9.lt
  have HL := Lib.hid (And.intro p9 (And.intro o9 (And.intro k9 hIg)))
  clear p9 o9 i9 k9 hIg
  go_wp2
  have t := three_put HL.out.2.1 (.int .i64 3) (.int .i64 i) (.int .u32 G)
  have t0 := t.cell 0
  have t1 := t.cell 1
  have t2 := t.cell 2
  simp only [List.getElem?_toArray, List.getElem?_cons_zero, List.getElem?_cons_succ] at t0 t1 t2
  refine bodyPost_ret (v := .tuple #[.agg #[.int .i64 3, .int .i64 i, .int .u32 G], .int .i64 0]) (by simp [results, Try.results14, go_sem, t0, t1, t2]) rfl ⟨rfl, ?_⟩
  have hkp := ((((Kept.refl (· = w.heap.size) W9).put1 0 (.int .i64 3)).put1 1 (.int .i64 i)).put1 2 (.int .u32 G))
  exact ⟨HL.out.1.kept hkp (fun g hg e => by have := FT.out g hg; omega), HL.out.2.2.1.self (hkp.mono fun g _ e => Or.inr (Nat.le_of_eq e.symm))⟩
/-- Grant, whatever is asked. -/
theorem egrant_ok (q c d g : Nat) (D : Dk) (x now : Int) (w : World) (h : QW w q c d g D) : Calls Try.prog 14 #[.pointer (some ⟨q, 0, none⟩), .int .i64 x, .int .i64 now] w (EGraV q c d g D x now w) := by
  unfold EGraV
  obtain ⟨_, c0, _⟩ := h.cells
  rcases D.g_cases x now with ⟨h1, h2⟩ | ⟨h1, h2, h3, h4⟩ | ⟨h1, h2, h3, h4, h5⟩ | ⟨h1, h2, h3, i, r, h4, h5⟩
  · obtain ⟨e1, e2, e3, e4⟩ := Dk.grant_ne (D := D) (x := x) (now := now) (by omega)
    rw [e1, e2, e3, e4, h2]
    exact (egrant_arg q x now w c0 h1).mono fun _ _ ⟨g1, g2⟩ => ⟨g1, h.below g2, Kept.of_below g2⟩
  · obtain ⟨e1, e2, e3, e4⟩ := Dk.grant_ne (D := D) (x := x) (now := now) (by omega)
    rw [e1, e2, e3, e4, h4]
    exact (egrant_late q x now w c0 h1 h2 h3).mono fun _ _ ⟨g1, g2⟩ => ⟨g1, h.below g2, Kept.of_below g2⟩
  · obtain ⟨e1, e2, e3, e4⟩ := Dk.grant_ne (D := D) (x := x) (now := now) (by omega)
    rw [e1, e2, e3, e4, h5]
    exact egrant_full q c d g D x now w h h1 h2 h3 h4
  · obtain ⟨e1, e2, e3, e4⟩ := Dk.grant_zero h5 h4
    rw [e1, e2, e3, e4, h5]
    exact egrant_yes q c d g D x now w h h1 h2 h3 i r h4
end Go.Proofs.Ytfemfgpciogbeaa
