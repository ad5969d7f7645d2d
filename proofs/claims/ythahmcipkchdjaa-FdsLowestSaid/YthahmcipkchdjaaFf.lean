/- The contracts of the program's Close and Number. -/
import Derived.Test.YthahmcipkchdjaaFe
namespace Go.Proofs.Ythahmcipkchdjaa
open Go.RowKit

theorem Fb.chk_is {F : Fb} (hF : F.Ok) {y z : Int} (h : F.chk 1 y z = 0) : ∃ i : Nat, y = i ∧ i < F.t.n ∧ F.t.s i = 1 ∧ z = F.t.g i ∧ Okn 64 1 i (F.t.g i) := by
  obtain ⟨_, j, rfl, h1, h2, h3⟩ := Fb.chk_open h
  have a1 := hF.hi
  have a2 := hF.t.g1 j h1
  have a3 := hF.t.gm j
  exact ⟨j, rfl, h1, h2, h3.symm, by omega, by omega, by omega, a2, a3⟩

set_option maxHeartbeats 1000000 in
theorem found_close (B C b k m i : Nat) (F : Fb) (w : World) (h : FW w b k m F) (hi : i < F.t.n) (hs : F.t.s i = 1) (hB : Bk w B 27 #[.pointer (some ⟨b, 0, none⟩)]) (hC : Bk w C 25 #[.int .i64 1, .int .i64 i, .int .u32 (F.t.g i)]) :
    Calls Try.prog 37 #[.pointer (some ⟨b, 0, none⟩), .agg #[.int .i64 1, .int .i64 i, .int .u32 (F.t.g i)], .func (.func 38) #[] #[.pointer (some ⟨B, 0, none⟩), .pointer (some ⟨C, 0, none⟩)]] w fun e w' => e = .returned (.int .i64 0) ∧ Hid (FW w' b k m (F.close i) ∧ Kept (FFoot b k m) w w') := by
  obtain ⟨z, hz⟩ : ∃ z, F.t.g i = z := ⟨_, rfl⟩
  have HH : Hid (Okn 64 1 i z) := by
    have a1 := h.ok.hi
    have a2 := h.ok.t.g1 i hi
    have a3 := h.ok.t.gm i
    exact ⟨by omega, by omega, by omega, by omega, by omega⟩
  have hc := h.c0
  have CK : Hid (∀ W, Below w.heap.size w W → Calls Try.prog 54 #[.pointer (some ⟨k, 0, none⟩), .agg #[.int .i64 i, .int .u32 z]] W fun e w' => e = .returned (.int .i64 0) ∧ Below W.heap.size W w') := fun W hW => by
    have := check_any k F.t i z W (h.tab.below hW)
    rw [← hz, Tb.chk_held hi hs] at this
    rw [← hz]; exact this
  have HC : Hid (∀ W, Below w.heap.size w W → W.cell? ⟨b, 0, none⟩ = some (.pointer (some ⟨k, 0, none⟩))) := fun W hW => (h.below hW).c0
  have CL : Hid (∀ W, Below w.heap.size w W → Calls Try.prog 38 #[.agg #[.int .i64 i, .int .u32 z], .pointer (some ⟨B, 0, none⟩), .pointer (some ⟨C, 0, none⟩)] W fun e w' => e = .returned (.tuple #[]) ∧ Hid (FW w' b k m (F.close i) ∧ Kept (FFoot b k m) w w')) := fun W hW => by
    have := close1_ok B C b k m i F W (h.below hW) hi hs (hB.below hW) (hC.below hW)
    rw [hz] at this
    exact this.mono fun e w' ⟨h1, h2, h3⟩ => ⟨h1, h2, (Kept.of_below hW).trans h3⟩
  clear hB hC
  rw [hz]
  clear h hi hs hz
  go_enter Try.func37, Try.ntmps37
  go_wp2_with (first
    | (go_at_call 34; refine (fvalid_yes _ k _ (cell_keeps ((Below.refl _ w).alloc (Nat.le_refl _) _) hc)).mono ?_; rintro e w' ⟨rfl, rfl⟩)
    | (go_at_call 53; refine (ochk_ok _ _ _ HH.out _).mono ?_; rintro e w2 ⟨rfl, hb2⟩; have HB := Lib.hid (bel2 ((Below.refl _ _).alloc (Nat.le_refl _) _) hb2); obtain ⟨q0, q1, q2, hl2⟩ := box_o hb2; have hc3 := HC.out w2 HB.out; clear hb2))
  have hbl : b < w2.heap.size := World.block_lt_of_cell? _ _ hc3
  have S0 : (w2.alloc (.cells #[.int .i64 i, .int .u32 z] 86)).cell? ⟨b, 0, none⟩ = some (.pointer (some ⟨k, 0, none⟩)) ∧ (w2.alloc (.cells #[.int .i64 i, .int .u32 z] 86)).cell? ⟨w2.heap.size, 0, none⟩ = some (.int .i64 i) ∧ (w2.alloc (.cells #[.int .i64 i, .int .u32 z] 86)).cell? ⟨w2.heap.size, 1, none⟩ = some (.int .u32 z) := by
    have hn := Bk.new w2 86 #[.int .i64 i, .int .u32 z]
    exact ⟨cell_keeps ((Below.refl _ w2).alloc (Nat.le_refl _) _) hc3, hn.cell 0, hn.cell 1⟩
  have B0 := Lib.hid (bel_drew (bel_alloc HB.out (.cells #[.int .i64 i, .int .u32 z] 86)))
  generalize (w2.alloc (.cells #[.int .i64 i, .int .u32 z] 86)) = w4 at *
  obtain ⟨s0, s1, s2⟩ := S0
  go_region_held3 (fun W => W.cell? ⟨b, 0, none⟩ = some (.pointer (some ⟨k, 0, none⟩)) ∧ W.cell? ⟨w2.heap.size, 0, none⟩ = some (.int .i64 i) ∧ W.cell? ⟨w2.heap.size, 1, none⟩ = some (.int .u32 z)) (first | (exact ⟨s0, s1, s2⟩) | (with_reducible exact hz1)) (first
    | (go_at_call 54; (with_reducible refine (CK.out _ B0.out).mono ?_); rintro e w5 ⟨rfl, hb5⟩; have HB5 := Lib.hid (bel2 B0.out hb5); have hz1 := And.intro (cell_keeps hb5 s0) (And.intro (cell_keeps hb5 s1) (cell_keeps hb5 s2)); clear hb5))
  all_goals
    obtain ⟨t0, t1, t2⟩ := hz1
    go_wp2_with (go_at_call 38; refine (CL.out _ HB5.out).mono ?_; rintro e w6 ⟨rfl, HF⟩)
    go_ret
    exact ⟨rfl, HF⟩

set_option maxHeartbeats 1000000 in
theorem found_number (B C D b k m i : Nat) (F : Fb) (w : World) (h : FW w b k m F) (hi : i < F.t.n) (hs : F.t.s i = 1) (hB : Bk w B 27 #[.pointer (some ⟨b, 0, none⟩)]) (hC : Bk w C 25 #[.int .i64 1, .int .i64 i, .int .u32 (F.t.g i)]) (hD : Bk w D 3 #[.int .i64 0]) :
    Calls Try.prog 37 #[.pointer (some ⟨b, 0, none⟩), .agg #[.int .i64 1, .int .i64 i, .int .u32 (F.t.g i)], .func (.func 48) #[] #[.pointer (some ⟨B, 0, none⟩), .pointer (some ⟨C, 0, none⟩), .pointer (some ⟨D, 0, none⟩)]] w fun e w' => e = .returned (.int .i64 0) ∧ Hid (Bk w' D 3 #[.int .i64 (F.num i)] ∧ Kept (· = D) w w') := by
  obtain ⟨z, hz⟩ : ∃ z, F.t.g i = z := ⟨_, rfl⟩
  have HH : Hid (Okn 64 1 i z) := by
    have a1 := h.ok.hi
    have a2 := h.ok.t.g1 i hi
    have a3 := h.ok.t.gm i
    exact ⟨by omega, by omega, by omega, by omega, by omega⟩
  have hc := h.c0
  have CK : Hid (∀ W, Below w.heap.size w W → Calls Try.prog 54 #[.pointer (some ⟨k, 0, none⟩), .agg #[.int .i64 i, .int .u32 z]] W fun e w' => e = .returned (.int .i64 0) ∧ Below W.heap.size W w') := fun W hW => by
    have := check_any k F.t i z W (h.tab.below hW)
    rw [← hz, Tb.chk_held hi hs] at this
    rw [← hz]; exact this
  have HC : Hid (∀ W, Below w.heap.size w W → W.cell? ⟨b, 0, none⟩ = some (.pointer (some ⟨k, 0, none⟩))) := fun W hW => (h.below hW).c0
  have CL : Hid (∀ W, Below w.heap.size w W → Calls Try.prog 48 #[.agg #[.int .i64 i, .int .u32 z], .pointer (some ⟨B, 0, none⟩), .pointer (some ⟨C, 0, none⟩), .pointer (some ⟨D, 0, none⟩)] W fun e w' => e = .returned (.tuple #[]) ∧ Hid (Bk w' D 3 #[.int .i64 (F.num i)] ∧ Kept (· = D) w w')) := fun W hW => by
    have := number1_ok B C D b k m i F W (h.below hW) hi hs (hB.below hW) (hC.below hW) (hD.below hW)
    rw [hz] at this
    exact this.mono fun e w' ⟨h1, h2, h3⟩ => ⟨h1, h2, (Kept.of_below hW).trans h3⟩
  clear hB hC hD
  rw [hz]
  clear h hi hs hz
  go_enter Try.func37, Try.ntmps37
  go_wp2_with (first
    | (go_at_call 34; refine (fvalid_yes _ k _ (cell_keeps ((Below.refl _ w).alloc (Nat.le_refl _) _) hc)).mono ?_; rintro e w' ⟨rfl, rfl⟩)
    | (go_at_call 53; refine (ochk_ok _ _ _ HH.out _).mono ?_; rintro e w2 ⟨rfl, hb2⟩; have HB := Lib.hid (bel2 ((Below.refl _ _).alloc (Nat.le_refl _) _) hb2); obtain ⟨q0, q1, q2, hl2⟩ := box_o hb2; have hc3 := HC.out w2 HB.out; clear hb2))
  have hbl : b < w2.heap.size := World.block_lt_of_cell? _ _ hc3
  have S0 : (w2.alloc (.cells #[.int .i64 i, .int .u32 z] 86)).cell? ⟨b, 0, none⟩ = some (.pointer (some ⟨k, 0, none⟩)) ∧ (w2.alloc (.cells #[.int .i64 i, .int .u32 z] 86)).cell? ⟨w2.heap.size, 0, none⟩ = some (.int .i64 i) ∧ (w2.alloc (.cells #[.int .i64 i, .int .u32 z] 86)).cell? ⟨w2.heap.size, 1, none⟩ = some (.int .u32 z) := by
    have hn := Bk.new w2 86 #[.int .i64 i, .int .u32 z]
    exact ⟨cell_keeps ((Below.refl _ w2).alloc (Nat.le_refl _) _) hc3, hn.cell 0, hn.cell 1⟩
  have B0 := Lib.hid (bel_drew (bel_alloc HB.out (.cells #[.int .i64 i, .int .u32 z] 86)))
  generalize (w2.alloc (.cells #[.int .i64 i, .int .u32 z] 86)) = w4 at *
  obtain ⟨s0, s1, s2⟩ := S0
  go_region_held3 (fun W => W.cell? ⟨b, 0, none⟩ = some (.pointer (some ⟨k, 0, none⟩)) ∧ W.cell? ⟨w2.heap.size, 0, none⟩ = some (.int .i64 i) ∧ W.cell? ⟨w2.heap.size, 1, none⟩ = some (.int .u32 z)) (first | (exact ⟨s0, s1, s2⟩) | (with_reducible exact hz1)) (first
    | (go_at_call 54; (with_reducible refine (CK.out _ B0.out).mono ?_); rintro e w5 ⟨rfl, hb5⟩; have HB5 := Lib.hid (bel2 B0.out hb5); have hz1 := And.intro (cell_keeps hb5 s0) (And.intro (cell_keeps hb5 s1) (cell_keeps hb5 s2)); clear hb5))
  all_goals
    obtain ⟨t0, t1, t2⟩ := hz1
    go_wp2_with (go_at_call 48; refine (CL.out _ HB5.out).mono ?_; rintro e w6 ⟨rfl, HF⟩)
    go_ret
    exact ⟨rfl, HF⟩
end Go.Proofs.Ythahmcipkchdjaa
