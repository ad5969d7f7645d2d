/- The contracts of the closures that found calls: of Renew, Return, Until, Over. -/
import Derived.Test.YtfemfgpciogbeaaYb
namespace Go.Proofs.Ytfemfgpciogbeaa
open Go.RowKit

theorem one_cell {w : World} {B : Nat} {t : TypeId} {v : Value} (h : Bk w B t #[v]) : w.cell? ⟨B, 0, none⟩ = some v := h.cell 0
/-- A block of a type that no part of a desk has. -/
theorem DkW.off {w : World} {b k a A : Nat} {D : Dk} {t : TypeId} {cs : Array Value} (h : DkW w b k a D) (hA : Bk w A t cs) (h1 : t ≠ 54) (h2 : t ≠ 105) (h3 : t ≠ 78) : ¬ DFoot b k a A := by
  rintro (rfl | rfl | rfl)
  · exact h1 (hA.uniq h.hb).1
  · exact h2 (hA.uniq h.tab.bk).1
  · exact h3 (hA.uniq h.ha).1

/-! ### Return -/
theorem dgive {w w' : World} {b k a i : Nat} {D : Dk} (h : DkW w b k a D) (hT : TabW w' k (D.t.gave i)) (q : Kept (· = k) w w') : DkW w' b k a (D.give i) ∧ Kept (DFoot b k a) w w' :=
  ⟨⟨h.ok.give i, h.hb.kept q h.bk, h.ha.kept q (fun e => h.ka e.symm), hT⟩, q.mono fun _ _ e => .inr (.inl e)⟩
set_option maxHeartbeats 1000000 in
theorem return1_ok (B b k a i : Nat) (D : Dk) (w : World) (h : DkW w b k a D) (hi : i < D.t.n) (hs : D.t.s i = 1) (hB : Bk w B 25 #[.pointer (some ⟨b, 0, none⟩)]) :
    Calls Try.prog 51 #[.agg #[.int .i64 i, .int .u32 (D.t.g i)], .pointer (some ⟨B, 0, none⟩)] w fun e w' => e = .returned (.int .i64 0) ∧ Hid (DkW w' b k a (D.give i) ∧ Kept (DFoot b k a) w w') := by
  have hBk : B ≠ k := by rintro rfl; exact absurd (hB.uniq h.tab.bk).1 (by decide)
  have hbk := h.bk
  have hkl := h.tab.bt
  obtain ⟨z, hz⟩ : ∃ z, D.t.g i = z := ⟨_, rfl⟩
  have GV : Hid (∀ W, Below w.heap.size w W → Calls Try.prog 52 #[.pointer (some ⟨k, 0, none⟩), .agg #[.int .i64 i, .int .u32 z]] W fun e w' => e = .returned (.int .i64 0) ∧ (DkW w' b k a (D.give i) ∧ Kept (DFoot b k a) w w') ∧ Kept (· = k) W w') := fun W hW => by
    refine (give_ok k D.t i z W (h.below hW).tab hi hs (by rw [hz])).mono ?_
    rintro e w' ⟨rfl, hT, hk⟩
    have := dgive (h.below hW) hT hk
    exact ⟨rfl, ⟨this.1, (Kept.of_below hW).trans this.2⟩, hk⟩
  have R0 := one_cell hB
  have R1 := h.c0
  rw [hz]
  clear h hi hs hB hz
  go_enter Try.func51, Try.ntmps51
  go_wp2
  have S0 : (w.alloc (.cells #[.int .i64 i, .int .u32 z] 86)).cell? ⟨w.heap.size, 0, none⟩ = some (.int .i64 i) ∧ (w.alloc (.cells #[.int .i64 i, .int .u32 z] 86)).cell? ⟨w.heap.size, 1, none⟩ = some (.int .u32 z) := by
    have hn := Bk.new w 86 #[.int .i64 i, .int .u32 z]
    exact ⟨hn.cell 0, hn.cell 1⟩
  have hb0 : Below w.heap.size w (w.alloc (.cells #[.int .i64 i, .int .u32 z] 86)) := (Below.refl _ w).alloc (Nat.le_refl _) _
  have B0 := Lib.hid (bel_drew hb0)
  have hne : w.heap.size ≠ k := by omega
  generalize (w.alloc (.cells #[.int .i64 i, .int .u32 z] 86)) = w4 at *
  obtain ⟨s0, s1⟩ := S0
  have r0 := cell_keeps hb0 R0
  have r1 := cell_keeps hb0 R1
  clear R0 R1 hb0
  go_region_held3 (fun W => W.cell? ⟨B, 0, none⟩ = some (.pointer (some ⟨b, 0, none⟩)) ∧ W.cell? ⟨b, 0, none⟩ = some (.pointer (some ⟨k, 0, none⟩)) ∧ W.cell? ⟨w.heap.size, 0, none⟩ = some (.int .i64 i) ∧ W.cell? ⟨w.heap.size, 1, none⟩ = some (.int .u32 z)) (first | (exact ⟨r0, r1, s0, s1⟩) | (with_reducible exact hz1)) (first
    | (go_at_call 52; (with_reducible refine (GV.out _ B0.out).mono ?_); rintro e w5 ⟨rfl, hp5, hk5⟩; have hz1 := And.intro (kept_cell hk5 r0 hBk) (And.intro (kept_cell hk5 r1 hbk) (And.intro (kept_cell hk5 s0 hne) (kept_cell hk5 s1 hne))); have HF := Lib.hid hp5; clear hp5 hk5))
  all_goals
    go_wp2
    go_ret
    exact ⟨rfl, HF⟩

/-! ### Until -/
set_option maxHeartbeats 1000000 in
theorem until1_ok (B U b k a i : Nat) (g : Int) (D : Dk) (w : World) (h : DkW w b k a D) (hi : i < 64) (hB : Bk w B 25 #[.pointer (some ⟨b, 0, none⟩)]) (hU : Bk w U 2 #[.int .i64 0]) :
    Calls Try.prog 54 #[.agg #[.int .i64 i, .int .u32 g], .pointer (some ⟨B, 0, none⟩), .pointer (some ⟨U, 0, none⟩)] w fun e w' => e = .returned (.int .i64 0) ∧ Hid (Bk w' U 2 #[.int .i64 (D.u i)] ∧ Kept (· = U) w w') := by
  have R0 := one_cell hB
  have R1 := h.c1
  have R2 := h.ca hi
  have U0 := one_cell hU
  have hiz : (i : Int) < 64 := by omega
  generalize D.u i = y at *
  have FIN : Hid (∀ o : Obj, Bk ((w.alloc o).drew.setCell ⟨U, 0, none⟩ (.int .i64 y)) U 2 #[.int .i64 y] ∧ Kept (· = U) w ((w.alloc o).drew.setCell ⟨U, 0, none⟩ (.int .i64 y))) := fun o => by
    have h1 : Bk (w.alloc o).drew U 2 #[.int .i64 0] := hU.up o
    exact ⟨h1.put 0 _, (((Kept.refl _ w).alloc o).drew).put1 _ _⟩
  have F0 : ∀ o : Obj, (w.alloc o).frozen? ⟨U, 0, none⟩ = false := fun o => (hU.up o).frozen 0
  clear h hB hU
  go_enter Try.func54, Try.ntmps54
  go_wp2
  have hb0 : Below w.heap.size w (w.alloc (.cells #[.int .i64 i, .int .u32 g] 86)) := (Below.refl _ w).alloc (Nat.le_refl _) _
  have FI := Lib.hid (FIN.out (.cells #[.int .i64 i, .int .u32 g] 86))
  have s0 : (w.alloc (.cells #[.int .i64 i, .int .u32 g] 86)).cell? ⟨w.heap.size, 0, none⟩ = some (.int .i64 i) := (Bk.new w 86 #[.int .i64 i, .int .u32 g]).cell 0
  have f1 := F0 (.cells #[.int .i64 i, .int .u32 g] 86)
  have r0 := cell_keeps hb0 R0
  have r1 := cell_keeps hb0 R1
  have r2 := cell_keeps hb0 R2
  have u0 := cell_keeps hb0 U0
  generalize (w.alloc (.cells #[.int .i64 i, .int .u32 g] 86)) = w4 at *
  clear R0 R1 R2 U0 hb0 FIN F0
  go_region
  go_wp2
  go_ret
  exact ⟨rfl, FI.out⟩

/-! ### Over -/
set_option maxHeartbeats 1000000 in
theorem over1_ok (B N O b k a i : Nat) (g now : Int) (D : Dk) (r : Bool) (w : World) (h : DkW w b k a D) (hi : i < 64) (hB : Bk w B 25 #[.pointer (some ⟨b, 0, none⟩)]) (hN : Bk w N 2 #[.int .i64 now]) (hO : Bk w O 4 #[.bool false]) (hr : decide ((D.u i : Int) ≤ now) = r) :
    Calls Try.prog 55 #[.agg #[.int .i64 i, .int .u32 g], .pointer (some ⟨B, 0, none⟩), .pointer (some ⟨N, 0, none⟩), .pointer (some ⟨O, 0, none⟩)] w fun e w' => e = .returned (.int .i64 0) ∧ Hid (Bk w' O 4 #[.bool r] ∧ Kept (· = O) w w') := by
  have OV : Hid (∀ W, Below w.heap.size w W → Calls Try.prog 49 #[.pointer (some ⟨b, 0, none⟩), .agg #[.int .i64 i, .int .u32 g], .int .i64 now] W fun e w' => e = .returned (.bool r) ∧ (w'.cell? ⟨O, 0, none⟩ = some (.bool false) ∧ w'.frozen? ⟨O, 0, none⟩ = false) ∧ Hid (Bk (w'.setCell ⟨O, 0, none⟩ (.bool r)) O 4 #[.bool r] ∧ Kept (· = O) w (w'.setCell ⟨O, 0, none⟩ (.bool r)))) := fun W hW => by
    refine (over_core b a i g now _ r W hi (h.below hW).c1 ((h.below hW).ca hi) hr).mono ?_
    rintro e w' ⟨rfl, hb⟩
    have hB' := bel2 hW hb
    have h1 := hO.below hB'
    exact ⟨rfl, ⟨h1.cell 0, h1.frozen 0⟩, h1.put 0 _, (Kept.of_below hB').put1 _ _⟩
  have HB := Lib.hid ((Below.refl _ w).alloc (Nat.le_refl _) (.cells #[.int .i64 i, .int .u32 g] 86))
  have r0 := cell_keeps HB.out (one_cell hB)
  have r1 := cell_keeps HB.out (one_cell hN)
  clear h hi hB hN hO hr
  go_enter Try.func55, Try.ntmps55
  go_wp2_with (go_at_call 49; refine (OV.out _ HB.out).mono ?_; rintro e w2 ⟨rfl, ⟨o0, f0⟩, HF⟩)
  go_ret
  exact ⟨rfl, HF⟩

/-! ### Renew -/
theorem duntil {w : World} {b k a i y : Nat} {D : Dk} (h : DkW w b k a D) (hy : y ≤ 1099511627776) : DkW (w.setCell ⟨a, i, none⟩ (.int .i64 y)) b k a (D.until i y) := by
  have e1 : ∀ g, g ≠ a → (w.setCell ⟨a, i, none⟩ (.int .i64 y)).heap[g]? = w.heap[g]? := fun g hg => Below.heap_setCell _ _ _ _ hg
  have h2 := h.ha.put i (.int .i64 y)
  rw [ucells_put] at h2
  exact ⟨h.ok.until i hy, h.hb.same (e1 b h.ba), h2, h.tab.same (e1 k h.ka)⟩
def Rn1 (b k a : Nat) (D : Dk) (w w' : World) : Prop := DkW w' b k a D ∧ Kept (DFoot b k a) w w'
set_option maxHeartbeats 1000000 in
theorem renew1_over (B N T b k a i : Nat) (g now x : Int) (D : Dk) (w : World) (h : DkW w b k a D) (hi : i < 64) (hB : Bk w B 25 #[.pointer (some ⟨b, 0, none⟩)]) (hN : Bk w N 2 #[.int .i64 now]) (_hT : Bk w T 2 #[.int .i64 x]) (hr : (D.u i : Int) ≤ now) :
    Calls Try.prog 48 #[.agg #[.int .i64 i, .int .u32 g], .pointer (some ⟨B, 0, none⟩), .pointer (some ⟨N, 0, none⟩), .pointer (some ⟨T, 0, none⟩)] w fun e w' => e = .returned (.int .i64 8) ∧ Hid (Rn1 b k a D w w') := by
  have OV : Hid (∀ W, Below w.heap.size w W → Calls Try.prog 49 #[.pointer (some ⟨b, 0, none⟩), .agg #[.int .i64 i, .int .u32 g], .int .i64 now] W fun e w' => e = .returned (.bool true) ∧ Hid (Rn1 b k a D w w')) := fun W hW => by
    refine (over_core b a i g now _ true W hi (h.below hW).c1 ((h.below hW).ca hi) (by simpa using hr)).mono ?_
    rintro e w' ⟨rfl, hb⟩
    exact ⟨rfl, h.below (bel2 hW hb), Kept.of_below (bel2 hW hb)⟩
  have HB := Lib.hid ((Below.refl _ w).alloc (Nat.le_refl _) (.cells #[.int .i64 i, .int .u32 g] 86))
  have r0 := cell_keeps HB.out (one_cell hB)
  have r1 := cell_keeps HB.out (one_cell hN)
  clear h hi hB hN hr
  go_enter Try.func48, Try.ntmps48
  go_wp2_with (go_at_call 49; refine (OV.out _ HB.out).mono ?_; rintro e w2 ⟨rfl, HF⟩)
  go_ret
  exact ⟨rfl, HF⟩
set_option maxHeartbeats 1000000 in
theorem renew1_late (B N T b k a i : Nat) (g now x : Int) (D : Dk) (w : World) (h : DkW w b k a D) (hi : i < 64) (hB : Bk w B 25 #[.pointer (some ⟨b, 0, none⟩)]) (hN : Bk w N 2 #[.int .i64 now]) (hT : Bk w T 2 #[.int .i64 x]) (hr : now < (D.u i : Int)) (hx : IsSpan x) (hn : IsTime now) (hl : 1099511627776 < now + x) :
    Calls Try.prog 48 #[.agg #[.int .i64 i, .int .u32 g], .pointer (some ⟨B, 0, none⟩), .pointer (some ⟨N, 0, none⟩), .pointer (some ⟨T, 0, none⟩)] w fun e w' => e = .returned (.int .i64 17) ∧ Hid (Rn1 b k a D w w') := by
  obtain ⟨x1, x2⟩ := hx
  obtain ⟨n1, n2⟩ := hn
  have hwr : IntKind.i64.wrap (now + x) = now + x := by rw [IntKind.wrap_i64]; omega
  have TM : Hid (∀ W, Calls Try.prog 40 #[.int .i64 (now + x)] W fun e w' => e = .returned (.bool false) ∧ W = w') := fun W => time_no _ W (by unfold IsTime; omega)
  have OV : Hid (∀ W, Below w.heap.size w W → Calls Try.prog 49 #[.pointer (some ⟨b, 0, none⟩), .agg #[.int .i64 i, .int .u32 g], .int .i64 now] W fun e w' => e = .returned (.bool false) ∧ (w'.cell? ⟨N, 0, none⟩ = some (.int .i64 now) ∧ w'.cell? ⟨T, 0, none⟩ = some (.int .i64 x)) ∧ Hid (Rn1 b k a D w w')) := fun W hW => by
    refine (over_core b a i g now _ false W hi (h.below hW).c1 ((h.below hW).ca hi) (by simpa using hr)).mono ?_
    rintro e w' ⟨rfl, hb⟩
    exact ⟨rfl, ⟨one_cell (hN.below (bel2 hW hb)), one_cell (hT.below (bel2 hW hb))⟩, h.below (bel2 hW hb), Kept.of_below (bel2 hW hb)⟩
  have HB := Lib.hid ((Below.refl _ w).alloc (Nat.le_refl _) (.cells #[.int .i64 i, .int .u32 g] 86))
  have r0 := cell_keeps HB.out (one_cell hB)
  have r1 := cell_keeps HB.out (one_cell hN)
  clear h hi hB hN hT hr
  go_enter Try.func48, Try.ntmps48
  go_wp2_with (first
    | (go_at_call 49; refine (OV.out _ HB.out).mono ?_; rintro e w2 ⟨rfl, ⟨o0, o1⟩, HF⟩)
    | (go_at_call 40; refine (TM.out _).mono ?_; rintro e w3 ⟨rfl, rfl⟩))
  go_ret
  exact ⟨rfl, HF⟩
set_option maxHeartbeats 2000000 in
theorem renew1_ok (B N T b k a i : Nat) (g now x : Int) (D : Dk) (w : World) (h : DkW w b k a D) (hi : i < 64) (hB : Bk w B 25 #[.pointer (some ⟨b, 0, none⟩)]) (hN : Bk w N 2 #[.int .i64 now]) (hT : Bk w T 2 #[.int .i64 x]) (hr : now < (D.u i : Int)) (hx : IsSpan x) (hn : IsTime now) (hl : now + x ≤ 1099511627776) :
    Calls Try.prog 48 #[.agg #[.int .i64 i, .int .u32 g], .pointer (some ⟨B, 0, none⟩), .pointer (some ⟨N, 0, none⟩), .pointer (some ⟨T, 0, none⟩)] w fun e w' => e = .returned (.int .i64 0) ∧ Hid (Rn1 b k a (D.until i (now + x).toNat) w w') := by
  obtain ⟨x1, x2⟩ := hx
  obtain ⟨n1, n2⟩ := hn
  have hwr : IntKind.i64.wrap (now + x) = now + x := by rw [IntKind.wrap_i64]; omega
  obtain ⟨y, hy⟩ : ∃ y : Nat, (now + x).toNat = y := ⟨_, rfl⟩
  have hyz : now + x = (y : Int) := by omega
  rw [hy]
  have hiz : (i : Int) < 64 := by omega
  have TM : Hid (∀ W, Calls Try.prog 40 #[.int .i64 (now + x)] W fun e w' => e = .returned (.bool true) ∧ W = w') := fun W => time_yes _ W (by unfold IsTime; omega)
  obtain ⟨rs, hrs⟩ : ∃ o : Obj, .cells #[.int .i64 i, .int .u32 g] 86 = o := ⟨_, rfl⟩
  have OV : Hid (∀ W, Below w.heap.size w W → Bk W w.heap.size 86 #[.int .i64 i, .int .u32 g] → Calls Try.prog 49 #[.pointer (some ⟨b, 0, none⟩), .agg #[.int .i64 i, .int .u32 g], .int .i64 now] W fun e w' => e = .returned (.bool false) ∧ (w'.cell? ⟨N, 0, none⟩ = some (.int .i64 now) ∧ w'.cell? ⟨T, 0, none⟩ = some (.int .i64 x) ∧ w'.cell? ⟨B, 0, none⟩ = some (.pointer (some ⟨b, 0, none⟩)) ∧ w'.cell? ⟨b, 1, none⟩ = some (.pointer (some ⟨a, 0, none⟩)) ∧ w'.cell? ⟨a, i, none⟩ = some (.int .i64 (D.u i)) ∧ w'.frozen? ⟨a, i, none⟩ = false ∧ w'.cell? ⟨w.heap.size, 0, none⟩ = some (.int .i64 i) ∧ w.heap.size < w'.heap.size) ∧ Hid (Rn1 b k a (D.until i y) w (w'.drew.setCell ⟨a, i, none⟩ (.int .i64 y)))) := fun W hW hR => by
    refine (over_core b a i g now _ false W hi (h.below hW).c1 ((h.below hW).ca hi) (by simpa using hr)).mono ?_
    rintro e w' ⟨rfl, hb⟩
    have hb' := bel2 hW hb
    have h' := h.below hb'
    have hd : DkW w'.drew b k a D := h'.drewN 1
    exact ⟨rfl, ⟨one_cell (hN.below hb'), one_cell (hT.below hb'), one_cell (hB.below hb'), h'.c1, h'.ca hi, h'.fz i, (hR.below hb).cell 0, (hR.below hb).lt⟩, duntil hd (by omega), (Kept.of_below hb').drew.put (p := ⟨a, i, none⟩) (.inr (.inr (.inr rfl))) _⟩
  have HB := Lib.hid ((Below.refl _ w).alloc (Nat.le_refl _) (.cells #[.int .i64 i, .int .u32 g] 86))
  have HR := Lib.hid (Bk.new w 86 #[.int .i64 i, .int .u32 g])
  have r0 := cell_keeps HB.out (one_cell hB)
  have r1 := cell_keeps HB.out (one_cell hN)
  clear h hi hB hN hT hr hrs
  generalize D.u i = ui at *
  have HY := Lib.hid hyz
  clear hy hyz
  go_enter Try.func48, Try.ntmps48
  go_wp2_with (first
    | (go_at_call 49; refine (OV.out _ HB.out HR.out).mono ?_; rintro e w2 ⟨rfl, ⟨o0, o1, o2, o3, o4, o5, o6, o7⟩, HF⟩)
    | (go_at_call 40; refine (TM.out _).mono ?_; rintro e w3 ⟨rfl, rfl⟩))
  go_region
  go_wp2
  go_ret
  rw [HY.out]
  exact ⟨rfl, HF⟩
end Go.Proofs.Ytfemfgpciogbeaa
