/- The walk of LeasesOnce: it returns true for every input. -/
import Derived.Test.YtfemfgpciogbeaaYj
import Derived.Test.YtfemfgpciogbeaaYp
namespace Go.Proofs.Ytfemfgpciogbeaa
open Go.RowKit

/-- What the desk answers of a lease that was given back, and of one that is there. -/
theorem Lw.Ok.row_zero {S : Lw} {N j : Nat} {r : Nat × Nat} (h : S.Ok N) (hN : N ≤ 100) (h1 : S.L[j]? = some r) (h2 : S.U[j]? = some 0) :
    (S.D.til 3 r.1 r.2 : Int) = 0 ∧ S.D.chk 3 r.1 r.2 = 7 ∧ S.D.oE 3 r.1 r.2 S.now = 7 ∧ S.D.ovr 3 r.1 r.2 S.now = false ∧ S.D.ret 3 r.1 r.2 = S.D := by
  have c := h.chk_zero h1 h2
  have hn := h.now
  have ht : IsTime (S.now : Int) := ⟨by omega, by omega⟩
  have e : S.D.oE 3 r.1 r.2 S.now = 7 := by unfold Dk.oE; rw [if_pos ht, c]
  refine ⟨?_, c, e, ?_, ?_⟩
  · unfold Dk.til; rw [if_neg (by rw [c]; decide)]; rfl
  · unfold Dk.ovr; rw [if_neg (by rw [e]; decide)]
  · unfold Dk.ret; rw [if_neg (by rw [c]; decide)]
theorem Lw.Ok.row_pos {S : Lw} {N j u : Nat} {r : Nat × Nat} (h : S.Ok N) (hN : N ≤ 100) (h1 : S.L[j]? = some r) (h2 : S.U[j]? = some u) (h3 : 0 < u) :
    (S.D.til 3 r.1 r.2 : Int) = u ∧ S.D.chk 3 r.1 r.2 = 0 ∧ S.D.oE 3 r.1 r.2 S.now = 0 ∧ S.D.ovr 3 r.1 r.2 S.now = decide ((u : Int) ≤ S.now) ∧ r ∈ S.D.t.now := by
  obtain ⟨c, hu⟩ := h.chk_pos h1 h2 h3
  have hn := h.now
  have ht : IsTime (S.now : Int) := ⟨by omega, by omega⟩
  have e : S.D.oE 3 r.1 r.2 S.now = 0 := by unfold Dk.oE; rw [if_pos ht, c]
  obtain ⟨p1, p2, _⟩ := h.pos j r u h1 h2 h3
  refine ⟨?_, c, e, ?_, Tb.mem_now.2 ⟨(h.was r (List.mem_of_getElem? h1)).1, p1, p2⟩⟩
  · unfold Dk.til; rw [if_pos c, Int.toNat_natCast, hu]
  · unfold Dk.ovr; rw [if_pos e, Int.toNat_natCast, hu]

set_option maxRecDepth 1000000 in
set_option maxHeartbeats 4000000 in
theorem yOnc_walk (x0 x1 : Int) (a0 : Option Addr) (len cap : Nat) (s : Nat → Mv) (w : World) (h00 : 0 ≤ x0) (h01 : x0 ≤ 255) (h10 : 0 ≤ x1) (h11 : x1 ≤ 4294967295) (l : len ≤ cap) (m : cap ≤ 9223372036854775807) (u : Mvs w a0 len s) :
    Calls Try.prog 5 #[.int .u8 x0, .int .u32 x1, .slice a0 len cap] w fun e w' => e = .returned (.bool true) ∧ Below w.heap.size w w' := by
  obtain ⟨N, hN⟩ : ∃ N, (len < 100 ∧ N = len) ∨ (len = 100 ∧ N = 100) ∨ (100 < len ∧ N = 100) := by
    rcases Nat.lt_trichotomy len 100 with c | c | c
    · exact ⟨_, .inl ⟨c, rfl⟩⟩
    · exact ⟨_, .inr (.inl ⟨c, rfl⟩)⟩
    · exact ⟨_, .inr (.inr ⟨c, rfl⟩)⟩
  obtain ⟨f, hf, hf1, hf2⟩ : ∃ f : Nat, ((x1 = 0 ∧ f = 1) ∨ (x1 = 1 ∧ f = 1) ∨ (1 < x1 ∧ x1 = f)) ∧ 1 ≤ f ∧ f ≤ 4294967295 := by
    rcases (by omega : x1 = 0 ∨ x1 = 1 ∨ 1 < x1) with c | c | c
    · exact ⟨1, .inl ⟨c, rfl⟩, by decide, by decide⟩
    · exact ⟨1, .inr (.inl ⟨c, rfl⟩), by decide, by decide⟩
    · exact ⟨x1.toNat, .inr (.inr ⟨c, by omega⟩), by omega, by omega⟩
  have PL := Lib.hid (played_of x0 x1 a0 len cap N f s w h00 h01 hf hf1 hf2 hN l m u)
  have HN : Hid (N ≤ 100) := by unfold Hid; omega
  have h7 : (len : Int) ≤ cap := by omega
  have h8 : (cap : Int) ≤ 9223372036854775807 := by omega
  clear hf hf1 hf2 hN u l m
  go_enter Try.func5, Try.ntmps5
  go_wp2_with fail
  refine PL.out.mono ?_
  rintro e w1 ⟨X, rfl, HL⟩
  obtain ⟨b, k, a, pl, cl, pu, cu, n, S, hl, _⟩ := HL.out
  clear HL PL
  obtain ⟨c0, c1, c2, c3, c4, c5⟩ := hl.cells
  have L := Lib.hid hl
  have HCN : Hid (S.D.t.held.length = cntP S.U) := hl.ok.cnt.symm
  have hcn : (cntP S.U : Int) ≤ 100 := by have := cntP_le S.U; have h1 := hl.un; have h2 := hl.ok.ll; have := hl.ln; have := HN.out; omega
  have hnz : (n : Int) ≤ 100 := by have h2 := hl.ok.ll; have := hl.ln; have := HN.out; omega
  have HAL : Hid (S.D.all.length = cntP S.U) := by unfold Hid; rw [← HCN.out]; exact Dk.all_len _
  clear hl
  go_wp2_with fail
  refine (len_s _ L.out.ds HCN.out).mono ?_
  rintro e w2 ⟨rfl, _, hb2⟩
  have L2 := Lib.hid (L.out.quiet hb2.out)
  clear L hb2 c0 c1 c2 c3 c4 c5
  obtain ⟨c0, c1, c2, c3, c4, c5⟩ := L2.out.cells
  go_wp2_with fail
  refine (there_ok L2.out (by have := HN.out; omega)).mono ?_
  rintro e w3 ⟨rfl, rfl⟩
  go_wp2_with fail
  refine (all_s _ L2.out.ds rfl).mono ?_
  rintro e w3 ⟨p, c, rfl, _, _, hb3⟩
  rw [HAL.out]
  have L3 := Lib.hid (L2.out.quiet hb3.out)
  clear L2 hb3 c0 c1 c2 c3 c4 c5
  obtain ⟨c0, c1, c2, c3, c4, c5⟩ := L3.out.cells
  go_wp2_with fail
  refine (there_ok L3.out (by have := HN.out; omega)).mono ?_
  rintro e w4 ⟨rfl, rfl⟩
  go_wp2
  go_loopw [49] (fun v wr => ∃ j : Nat, j ≤ n ∧ v = .int .i64 j ∧ Hid (LW w wr X b k a pl cl pu cu n true N S)) (fun v _ => n - (intOf v).toNat)
  case atStart => exact ⟨0, Nat.zero_le _, rfl, L3.out⟩
  case round =>
    obtain ⟨j, hj, rfl, HL⟩ := hrel
    clear L3 c0 c1 c2 c3 c4 c5 HCN
    by_cases hlt : j < n
    · obtain ⟨r, hr⟩ : ∃ r, S.L[j]? = some r := ⟨_, List.getElem?_eq_getElem (by rw [HL.out.ln]; exact hlt)⟩
      obtain ⟨uu, hu⟩ : ∃ u, S.U[j]? = some u := ⟨_, List.getElem?_eq_getElem (by rw [HL.out.un]; exact hlt)⟩
      obtain ⟨gl, rfl, l1, q0, q1, q2⟩ := HL.out.atl hr
      obtain ⟨gu, rfl, l2, q3, q4⟩ := HL.out.atu hu
      obtain ⟨i, g⟩ := r
      simp only at q1 q2
      obtain ⟨c0, c1, c2, c3, c4, c5⟩ := HL.out.cells
      have hjz : (j : Int) < n := by omega
      have R0 := Lib.hid (And.intro hr hu)
      clear hr hu
      have h5 := HL.out.ok
      have h5 := HL.out.ok
      rcases Nat.eq_zero_or_pos uu with cu0 | cu0
      · subst cu0
        have RP := Lib.hid (h5.row_zero HN.out R0.out.1 R0.out.2)
        simp only at RP
        clear h5
        go_wp2
        have LN : Hid (LW w (wr.alloc (.cells #[.int .i64 3, .int .i64 i, .int .u32 g] 33)) X b k a (some ⟨gl, 0, none⟩) cl (some ⟨gu, 0, none⟩) cu n true N S) := HL.out.quiet (bal _ _)
        have OA := Lib.hid (Bk.new wr 33 #[.int .i64 3, .int .i64 i, .int .u32 g])
        clear HL
        generalize wr.alloc (.cells #[.int .i64 3, .int .i64 i, .int .u32 g] 33) = wa at *
        generalize wr.heap.size = A at *
        have FC : Hid (∀ W, LW w W X b k a (some ⟨gl, 0, none⟩) cl (some ⟨gu, 0, none⟩) cu n true N S → Bk W A 33 #[.int .i64 3, .int .i64 i, .int .u32 g] → (W.cell? ⟨X, 0, none⟩ = some (.pointer (some ⟨b, 0, none⟩)) ∧ W.cell? ⟨X, 2, none⟩ = some (.slice (some ⟨gu, 0, none⟩) n cu) ∧ W.cell? ⟨X, 3, none⟩ = some (.int .i64 S.now) ∧ W.cell? ⟨gu, j, none⟩ = some (.int .i64 0) ∧ W.cell? ⟨A, 0, none⟩ = some (.int .i64 3) ∧ W.cell? ⟨A, 1, none⟩ = some (.int .i64 i) ∧ W.cell? ⟨A, 2, none⟩ = some (.int .u32 g)) ∧ gu < W.heap.size ∧ A < W.heap.size ∧ X < W.heap.size) := fun W h1 h2 => by
          obtain ⟨c0, _, c2, c3, _, c5⟩ := h1.cells
          obtain ⟨a0, a1, a2, a3⟩ := ob_cells h2
          obtain ⟨gu', e, l2, q3, _⟩ := h1.atu R0.out.2
          injection e with e
          injection e with e
          subst e
          exact ⟨⟨c0, c2, c3, (by simpa using q3), a0, a1, a2⟩, l2, a3, c5⟩
        have RG : Hid (RgO 3 i g) := by
          obtain ⟨rb1, rb2⟩ := LN.out.ok.rg R0.out.1
          exact ⟨by omega, by omega, by omega, by omega, by simp only at rb2; omega, by simp only at rb2; omega⟩
        have UT : Hid (∀ W, Below wa.heap.size wa W → Calls Try.prog 19 #[.pointer (some ⟨b, 0, none⟩), .agg #[.int .i64 3, .int .i64 i, .int .u32 g]] W fun e w' => e = .returned (.tuple #[.int .i64 0, .int .i64 7]) ∧ Hid (LW w w' X b k a (some ⟨gl, 0, none⟩) cl (some ⟨gu, 0, none⟩) cu n true N S) ∧ Hid (Bk w' A 33 #[.int .i64 3, .int .i64 i, .int .u32 g])) := fun W hW =>
          (until_s 3 i g 0 7 (LN.out.quiet hW).ds RG.out RP.out.1 RP.out.2.1).mono fun _ _ ⟨e, _, h2⟩ => ⟨e, (LN.out.quiet hW).quiet h2.out, (OA.out.below hW).below h2.out⟩
        obtain ⟨⟨d0, d2, d3, d4, d5, d6, d7⟩, d8, d9, d10⟩ := FC.out wa LN.out OA.out
        clear LN OA l1 l2 q0 q1 q2 q3 q4 c0 c1 c2 c3 c4 c5
        go_region_held3 (fun W => W.cell? ⟨X, 0, none⟩ = some (.pointer (some ⟨b, 0, none⟩)) ∧ W.cell? ⟨X, 2, none⟩ = some (.slice (some ⟨gu, 0, none⟩) n cu) ∧ W.cell? ⟨X, 3, none⟩ = some (.int .i64 S.now) ∧ W.cell? ⟨gu, j, none⟩ = some (.int .i64 0) ∧ W.cell? ⟨A, 0, none⟩ = some (.int .i64 3) ∧ W.cell? ⟨A, 1, none⟩ = some (.int .i64 i) ∧ W.cell? ⟨A, 2, none⟩ = some (.int .u32 g)) (first | (with_reducible exact hz1.1) | (exact ⟨d0, d2, d3, d4, d5, d6, d7⟩)) (first
          | (go_at_call 19; (with_reducible refine (UT.out _ (by exact ⟨rfl, rfl, rfl, Nat.le_refl _, fun _ _ => rfl⟩)).mono ?_); rintro e w5 ⟨rfl, L5, O5⟩; have hz1 := FC.out w5 L5.out O5.out))
        all_goals
          clear UT d0 d2 d3 d4 d5 d6 d7 d8 d9 d10
          obtain ⟨⟨d0, d2, d3, d4, d5, d6, d7⟩, d8, d9, d10⟩ := hz1
          have OT : Hid (∀ W, Below w5.heap.size w5 W → Calls Try.prog 21 #[.pointer (some ⟨b, 0, none⟩), .agg #[.int .i64 3, .int .i64 i, .int .u32 g], .int .i64 S.now] W fun e w' => e = .returned (.tuple #[.bool false, .int .i64 7]) ∧ Hid (LW w w' X b k a (some ⟨gl, 0, none⟩) cl (some ⟨gu, 0, none⟩) cu n true N S) ∧ Hid (Bk w' A 33 #[.int .i64 3, .int .i64 i, .int .u32 g])) := fun W hW =>
            (over_s 3 i g S.now 7 false (L5.out.quiet hW).ds RG.out RP.out.2.2.2.1 RP.out.2.2.1).mono fun _ _ ⟨e, _, h2⟩ => ⟨e, (L5.out.quiet hW).quiet h2.out, (O5.out.below hW).below h2.out⟩
          clear L5 O5
          go_wp2
          go_region_held3 (fun W => W.cell? ⟨X, 0, none⟩ = some (.pointer (some ⟨b, 0, none⟩)) ∧ W.cell? ⟨X, 2, none⟩ = some (.slice (some ⟨gu, 0, none⟩) n cu) ∧ W.cell? ⟨X, 3, none⟩ = some (.int .i64 S.now) ∧ W.cell? ⟨gu, j, none⟩ = some (.int .i64 0) ∧ W.cell? ⟨A, 0, none⟩ = some (.int .i64 3) ∧ W.cell? ⟨A, 1, none⟩ = some (.int .i64 i) ∧ W.cell? ⟨A, 2, none⟩ = some (.int .u32 g)) (first | (with_reducible exact hz1.1) | (exact ⟨d0, d2, d3, d4, d5, d6, d7⟩)) (first
            | (go_at_call 21; (with_reducible refine (OT.out _ (by exact ⟨rfl, rfl, rfl, Nat.le_refl _, fun _ _ => rfl⟩)).mono ?_); rintro e w6 ⟨rfl, L6, O6⟩; have hz1 := FC.out w6 L6.out O6.out))
          all_goals
            clear OT d0 d2 d3 d4 d5 d6 d7 d8 d9 d10
            obtain ⟨⟨d0, d2, d3, d4, d5, d6, d7⟩, d8, d9, d10⟩ := hz1
            go_wp2
            have RT : Hid (∀ W, Below w6.heap.size w6 W → Calls Try.prog 17 #[.pointer (some ⟨b, 0, none⟩), .agg #[.int .i64 3, .int .i64 i, .int .u32 g]] W fun e w' => e = .returned (.int .i64 7) ∧ Hid (LW w w' X b k a (some ⟨gl, 0, none⟩) cl (some ⟨gu, 0, none⟩) cu n true N S) ∧ Hid (Bk w' A 33 #[.int .i64 3, .int .i64 i, .int .u32 g])) := fun W hW =>
              (ret_s 3 i g 7 (L6.out.quiet hW).ds RG.out RP.out.2.1).mono fun _ _ ⟨e, h1, h2⟩ => ⟨e, (L6.out.quiet hW).call h2.out (by have := h1.out; rw [RP.out.2.2.2.2] at this; exact this) L6.out.ok, (L6.out.quiet hW).ds.box (O6.out.below hW) h2.out⟩
            clear L6 O6
            go_region_held3 (fun W => W.cell? ⟨X, 0, none⟩ = some (.pointer (some ⟨b, 0, none⟩)) ∧ W.cell? ⟨X, 2, none⟩ = some (.slice (some ⟨gu, 0, none⟩) n cu) ∧ W.cell? ⟨X, 3, none⟩ = some (.int .i64 S.now) ∧ W.cell? ⟨gu, j, none⟩ = some (.int .i64 0) ∧ W.cell? ⟨A, 0, none⟩ = some (.int .i64 3) ∧ W.cell? ⟨A, 1, none⟩ = some (.int .i64 i) ∧ W.cell? ⟨A, 2, none⟩ = some (.int .u32 g)) (first | (with_reducible exact hz1.1) | (exact ⟨d0, d2, d3, d4, d5, d6, d7⟩)) (first
              | (go_at_call 17; (with_reducible refine (RT.out _ (by exact ⟨rfl, rfl, rfl, Nat.le_refl _, fun _ _ => rfl⟩)).mono ?_); rintro e w7 ⟨rfl, L7, O7⟩; have hz1 := FC.out w7 L7.out O7.out))
            all_goals
              have L8 : Hid (LW w w7.drew X b k a (some ⟨gl, 0, none⟩) cl (some ⟨gu, 0, none⟩) cu n true N S) := L7.out.quiet ⟨rfl, rfl, rfl, Nat.le_refl _, fun _ _ => rfl⟩
              go_wp2
              go_roundw
              case rel => exact ⟨j + 1, by omega, by go_num, L7.out⟩
              case measure => simp [intOf]; omega
      · have RP0 := Lib.hid (h5.row_pos HN.out R0.out.1 R0.out.2 cu0)
        simp only at RP0
        have huz : (0 : Int) < uu := by omega
        have hub : (uu : Int) ≤ 716 := by have := h5.uu j uu R0.out.2; have := HN.out; omega
        have hnow : (S.now : Int) ≤ 700 := by have := h5.now; have := HN.out; omega
        clear h5 cu0
        by_cases hov : (uu : Int) ≤ S.now
        · have RP : Hid ((S.D.til 3 i g : Int) = uu ∧ S.D.chk 3 i g = 0 ∧ S.D.oE 3 i g S.now = 0 ∧ S.D.ovr 3 i g S.now = true ∧ (i, g) ∈ S.D.t.now) := by
            obtain ⟨e1, e2, e3, e4, e5⟩ := RP0.out
            exact ⟨e1, e2, e3, by rw [e4]; simp [hov], e5⟩
          clear RP0
          go_wp2
          have LN : Hid (LW w (wr.alloc (.cells #[.int .i64 3, .int .i64 i, .int .u32 g] 33)) X b k a (some ⟨gl, 0, none⟩) cl (some ⟨gu, 0, none⟩) cu n true N S) := HL.out.quiet (bal _ _)
          have OA := Lib.hid (Bk.new wr 33 #[.int .i64 3, .int .i64 i, .int .u32 g])
          clear HL
          generalize wr.alloc (.cells #[.int .i64 3, .int .i64 i, .int .u32 g] 33) = wa at *
          generalize wr.heap.size = A at *
          have FC : Hid (∀ W, LW w W X b k a (some ⟨gl, 0, none⟩) cl (some ⟨gu, 0, none⟩) cu n true N S → Bk W A 33 #[.int .i64 3, .int .i64 i, .int .u32 g] → (W.cell? ⟨X, 0, none⟩ = some (.pointer (some ⟨b, 0, none⟩)) ∧ W.cell? ⟨X, 2, none⟩ = some (.slice (some ⟨gu, 0, none⟩) n cu) ∧ W.cell? ⟨X, 3, none⟩ = some (.int .i64 S.now) ∧ W.cell? ⟨gu, j, none⟩ = some (.int .i64 uu) ∧ W.cell? ⟨A, 0, none⟩ = some (.int .i64 3) ∧ W.cell? ⟨A, 1, none⟩ = some (.int .i64 i) ∧ W.cell? ⟨A, 2, none⟩ = some (.int .u32 g)) ∧ gu < W.heap.size ∧ A < W.heap.size ∧ X < W.heap.size) := fun W h1 h2 => by
            obtain ⟨c0, _, c2, c3, _, c5⟩ := h1.cells
            obtain ⟨a0, a1, a2, a3⟩ := ob_cells h2
            obtain ⟨gu', e, l2, q3, _⟩ := h1.atu R0.out.2
            injection e with e
            injection e with e
            subst e
            exact ⟨⟨c0, c2, c3, q3, a0, a1, a2⟩, l2, a3, c5⟩
          have RG : Hid (RgO 3 i g) := by
            obtain ⟨rb1, rb2⟩ := LN.out.ok.rg R0.out.1
            exact ⟨by omega, by omega, by omega, by omega, by simp only at rb2; omega, by simp only at rb2; omega⟩
          have UT : Hid (∀ W, Below wa.heap.size wa W → Calls Try.prog 19 #[.pointer (some ⟨b, 0, none⟩), .agg #[.int .i64 3, .int .i64 i, .int .u32 g]] W fun e w' => e = .returned (.tuple #[.int .i64 uu, .int .i64 0]) ∧ Hid (LW w w' X b k a (some ⟨gl, 0, none⟩) cl (some ⟨gu, 0, none⟩) cu n true N S) ∧ Hid (Bk w' A 33 #[.int .i64 3, .int .i64 i, .int .u32 g])) := fun W hW =>
            (until_s 3 i g uu 0 (LN.out.quiet hW).ds RG.out RP.out.1 RP.out.2.1).mono fun _ _ ⟨e, _, h2⟩ => ⟨e, (LN.out.quiet hW).quiet h2.out, (OA.out.below hW).below h2.out⟩
          obtain ⟨⟨d0, d2, d3, d4, d5, d6, d7⟩, d8, d9, d10⟩ := FC.out wa LN.out OA.out
          clear LN OA l1 l2 q0 q1 q2 q3 q4 c0 c1 c2 c3 c4 c5
          go_region_held3 (fun W => W.cell? ⟨X, 0, none⟩ = some (.pointer (some ⟨b, 0, none⟩)) ∧ W.cell? ⟨X, 2, none⟩ = some (.slice (some ⟨gu, 0, none⟩) n cu) ∧ W.cell? ⟨X, 3, none⟩ = some (.int .i64 S.now) ∧ W.cell? ⟨gu, j, none⟩ = some (.int .i64 uu) ∧ W.cell? ⟨A, 0, none⟩ = some (.int .i64 3) ∧ W.cell? ⟨A, 1, none⟩ = some (.int .i64 i) ∧ W.cell? ⟨A, 2, none⟩ = some (.int .u32 g)) (first | (with_reducible exact hz1.1) | (exact ⟨d0, d2, d3, d4, d5, d6, d7⟩)) (first
            | (go_at_call 19; (with_reducible refine (UT.out _ (by exact ⟨rfl, rfl, rfl, Nat.le_refl _, fun _ _ => rfl⟩)).mono ?_); rintro e w5 ⟨rfl, L5, O5⟩; have hz1 := FC.out w5 L5.out O5.out))
          all_goals
            clear UT d0 d2 d3 d4 d5 d6 d7 d8 d9 d10
            obtain ⟨⟨d0, d2, d3, d4, d5, d6, d7⟩, d8, d9, d10⟩ := hz1
            have OT : Hid (∀ W, Below w5.heap.size w5 W → Calls Try.prog 21 #[.pointer (some ⟨b, 0, none⟩), .agg #[.int .i64 3, .int .i64 i, .int .u32 g], .int .i64 S.now] W fun e w' => e = .returned (.tuple #[.bool true, .int .i64 0]) ∧ Hid (LW w w' X b k a (some ⟨gl, 0, none⟩) cl (some ⟨gu, 0, none⟩) cu n true N S) ∧ Hid (Bk w' A 33 #[.int .i64 3, .int .i64 i, .int .u32 g])) := fun W hW =>
              (over_s 3 i g S.now 0 true (L5.out.quiet hW).ds RG.out RP.out.2.2.2.1 RP.out.2.2.1).mono fun _ _ ⟨e, _, h2⟩ => ⟨e, (L5.out.quiet hW).quiet h2.out, (O5.out.below hW).below h2.out⟩
            clear L5 O5
            go_wp2
            go_region_held3 (fun W => W.cell? ⟨X, 0, none⟩ = some (.pointer (some ⟨b, 0, none⟩)) ∧ W.cell? ⟨X, 2, none⟩ = some (.slice (some ⟨gu, 0, none⟩) n cu) ∧ W.cell? ⟨X, 3, none⟩ = some (.int .i64 S.now) ∧ W.cell? ⟨gu, j, none⟩ = some (.int .i64 uu) ∧ W.cell? ⟨A, 0, none⟩ = some (.int .i64 3) ∧ W.cell? ⟨A, 1, none⟩ = some (.int .i64 i) ∧ W.cell? ⟨A, 2, none⟩ = some (.int .u32 g)) (first | (with_reducible exact hz1.1) | (exact ⟨d0, d2, d3, d4, d5, d6, d7⟩)) (first
              | (go_at_call 21; (with_reducible refine (OT.out _ (by exact ⟨rfl, rfl, rfl, Nat.le_refl _, fun _ _ => rfl⟩)).mono ?_); rintro e w6 ⟨rfl, L6, O6⟩; have hz1 := FC.out w6 L6.out O6.out))
            all_goals
              clear OT d0 d2 d3 d4 d5 d6 d7 d8 d9 d10
              obtain ⟨⟨d0, d2, d3, d4, d5, d6, d7⟩, d8, d9, d10⟩ := hz1
              go_wp2
              have AT : Hid (∀ W, Below w6.heap.size w6 W → Calls Try.prog 28 #[.pointer (some ⟨b, 0, none⟩)] W fun e w' => ∃ p c, e = .returned (.slice p S.D.all.length c) ∧ Hid (RowO w' (.slice p S.D.all.length c) S.D.all) ∧ Hid (LW w w' X b k a (some ⟨gl, 0, none⟩) cl (some ⟨gu, 0, none⟩) cu n true N S) ∧ Hid (Bk w' A 33 #[.int .i64 3, .int .i64 i, .int .u32 g])) := fun W hW =>
                (all_s _ (L6.out.quiet hW).ds rfl).mono fun _ _ ⟨p, c, e, h1, _, h2⟩ => ⟨p, c, e, h1, (L6.out.quiet hW).quiet h2.out, (O6.out.below hW).below h2.out⟩
              clear L6 O6
              go_region_held3 (fun W => W.cell? ⟨X, 0, none⟩ = some (.pointer (some ⟨b, 0, none⟩)) ∧ W.cell? ⟨X, 2, none⟩ = some (.slice (some ⟨gu, 0, none⟩) n cu) ∧ W.cell? ⟨X, 3, none⟩ = some (.int .i64 S.now) ∧ W.cell? ⟨gu, j, none⟩ = some (.int .i64 uu) ∧ W.cell? ⟨A, 0, none⟩ = some (.int .i64 3) ∧ W.cell? ⟨A, 1, none⟩ = some (.int .i64 i) ∧ W.cell? ⟨A, 2, none⟩ = some (.int .u32 g)) (first | (with_reducible exact hz2.1) | (with_reducible exact hz1.1) | (exact ⟨d0, d2, d3, d4, d5, d6, d7⟩)) (first
                | (go_at_call 28; (with_reducible refine (AT.out _ (by exact ⟨rfl, rfl, rfl, Nat.le_refl _, fun _ _ => rfl⟩)).mono ?_); rintro e w7 ⟨p2, cc2, rfl, R7, L7, O7⟩; have hz1 := FC.out w7 L7.out O7.out)
                | (go_at_call 32; (with_reducible refine (contains_yes p2 _ cc2 S.D.t.now (i, g) _ (by simp [Dk.all]) (by have := HAL.out; omega) (R7.out.below (by exact ⟨rfl, rfl, rfl, Nat.le_refl _, fun _ _ => rfl⟩)).rd RP.out.2.2.2.2).mono ?_); rintro e w8 ⟨rfl, hb8⟩; have B8 : Below w7.heap.size w7 w8 := bel2 (by exact ⟨rfl, rfl, rfl, Nat.le_refl _, fun _ _ => rfl⟩) hb8; have L8 := Lib.hid (L7.out.quiet B8); have hz2 := FC.out w8 L8.out (O7.out.below B8); clear hb8 B8))
              all_goals
                go_wp2
                go_roundw
                case rel => exact ⟨j + 1, by omega, by go_num, L8.out⟩
                case measure => simp [intOf]; omega
        · have RP : Hid ((S.D.til 3 i g : Int) = uu ∧ S.D.chk 3 i g = 0 ∧ S.D.oE 3 i g S.now = 0 ∧ S.D.ovr 3 i g S.now = false ∧ (i, g) ∈ S.D.t.now) := by
            obtain ⟨e1, e2, e3, e4, e5⟩ := RP0.out
            exact ⟨e1, e2, e3, by rw [e4]; simp [hov], e5⟩
          clear RP0
          have hov2 : (S.now : Int) < uu := by omega
          go_wp2
          have LN : Hid (LW w (wr.alloc (.cells #[.int .i64 3, .int .i64 i, .int .u32 g] 33)) X b k a (some ⟨gl, 0, none⟩) cl (some ⟨gu, 0, none⟩) cu n true N S) := HL.out.quiet (bal _ _)
          have OA := Lib.hid (Bk.new wr 33 #[.int .i64 3, .int .i64 i, .int .u32 g])
          clear HL
          generalize wr.alloc (.cells #[.int .i64 3, .int .i64 i, .int .u32 g] 33) = wa at *
          generalize wr.heap.size = A at *
          have FC : Hid (∀ W, LW w W X b k a (some ⟨gl, 0, none⟩) cl (some ⟨gu, 0, none⟩) cu n true N S → Bk W A 33 #[.int .i64 3, .int .i64 i, .int .u32 g] → (W.cell? ⟨X, 0, none⟩ = some (.pointer (some ⟨b, 0, none⟩)) ∧ W.cell? ⟨X, 2, none⟩ = some (.slice (some ⟨gu, 0, none⟩) n cu) ∧ W.cell? ⟨X, 3, none⟩ = some (.int .i64 S.now) ∧ W.cell? ⟨gu, j, none⟩ = some (.int .i64 uu) ∧ W.cell? ⟨A, 0, none⟩ = some (.int .i64 3) ∧ W.cell? ⟨A, 1, none⟩ = some (.int .i64 i) ∧ W.cell? ⟨A, 2, none⟩ = some (.int .u32 g)) ∧ gu < W.heap.size ∧ A < W.heap.size ∧ X < W.heap.size) := fun W h1 h2 => by
            obtain ⟨c0, _, c2, c3, _, c5⟩ := h1.cells
            obtain ⟨a0, a1, a2, a3⟩ := ob_cells h2
            obtain ⟨gu', e, l2, q3, _⟩ := h1.atu R0.out.2
            injection e with e
            injection e with e
            subst e
            exact ⟨⟨c0, c2, c3, q3, a0, a1, a2⟩, l2, a3, c5⟩
          have RG : Hid (RgO 3 i g) := by
            obtain ⟨rb1, rb2⟩ := LN.out.ok.rg R0.out.1
            exact ⟨by omega, by omega, by omega, by omega, by simp only at rb2; omega, by simp only at rb2; omega⟩
          have UT : Hid (∀ W, Below wa.heap.size wa W → Calls Try.prog 19 #[.pointer (some ⟨b, 0, none⟩), .agg #[.int .i64 3, .int .i64 i, .int .u32 g]] W fun e w' => e = .returned (.tuple #[.int .i64 uu, .int .i64 0]) ∧ Hid (LW w w' X b k a (some ⟨gl, 0, none⟩) cl (some ⟨gu, 0, none⟩) cu n true N S) ∧ Hid (Bk w' A 33 #[.int .i64 3, .int .i64 i, .int .u32 g])) := fun W hW =>
            (until_s 3 i g uu 0 (LN.out.quiet hW).ds RG.out RP.out.1 RP.out.2.1).mono fun _ _ ⟨e, _, h2⟩ => ⟨e, (LN.out.quiet hW).quiet h2.out, (OA.out.below hW).below h2.out⟩
          obtain ⟨⟨d0, d2, d3, d4, d5, d6, d7⟩, d8, d9, d10⟩ := FC.out wa LN.out OA.out
          clear LN OA l1 l2 q0 q1 q2 q3 q4 c0 c1 c2 c3 c4 c5
          go_region_held3 (fun W => W.cell? ⟨X, 0, none⟩ = some (.pointer (some ⟨b, 0, none⟩)) ∧ W.cell? ⟨X, 2, none⟩ = some (.slice (some ⟨gu, 0, none⟩) n cu) ∧ W.cell? ⟨X, 3, none⟩ = some (.int .i64 S.now) ∧ W.cell? ⟨gu, j, none⟩ = some (.int .i64 uu) ∧ W.cell? ⟨A, 0, none⟩ = some (.int .i64 3) ∧ W.cell? ⟨A, 1, none⟩ = some (.int .i64 i) ∧ W.cell? ⟨A, 2, none⟩ = some (.int .u32 g)) (first | (with_reducible exact hz1.1) | (exact ⟨d0, d2, d3, d4, d5, d6, d7⟩)) (first
            | (go_at_call 19; (with_reducible refine (UT.out _ (by exact ⟨rfl, rfl, rfl, Nat.le_refl _, fun _ _ => rfl⟩)).mono ?_); rintro e w5 ⟨rfl, L5, O5⟩; have hz1 := FC.out w5 L5.out O5.out))
          all_goals
            clear UT d0 d2 d3 d4 d5 d6 d7 d8 d9 d10
            obtain ⟨⟨d0, d2, d3, d4, d5, d6, d7⟩, d8, d9, d10⟩ := hz1
            have OT : Hid (∀ W, Below w5.heap.size w5 W → Calls Try.prog 21 #[.pointer (some ⟨b, 0, none⟩), .agg #[.int .i64 3, .int .i64 i, .int .u32 g], .int .i64 S.now] W fun e w' => e = .returned (.tuple #[.bool false, .int .i64 0]) ∧ Hid (LW w w' X b k a (some ⟨gl, 0, none⟩) cl (some ⟨gu, 0, none⟩) cu n true N S) ∧ Hid (Bk w' A 33 #[.int .i64 3, .int .i64 i, .int .u32 g])) := fun W hW =>
              (over_s 3 i g S.now 0 false (L5.out.quiet hW).ds RG.out RP.out.2.2.2.1 RP.out.2.2.1).mono fun _ _ ⟨e, _, h2⟩ => ⟨e, (L5.out.quiet hW).quiet h2.out, (O5.out.below hW).below h2.out⟩
            clear L5 O5
            go_wp2
            go_region_held3 (fun W => W.cell? ⟨X, 0, none⟩ = some (.pointer (some ⟨b, 0, none⟩)) ∧ W.cell? ⟨X, 2, none⟩ = some (.slice (some ⟨gu, 0, none⟩) n cu) ∧ W.cell? ⟨X, 3, none⟩ = some (.int .i64 S.now) ∧ W.cell? ⟨gu, j, none⟩ = some (.int .i64 uu) ∧ W.cell? ⟨A, 0, none⟩ = some (.int .i64 3) ∧ W.cell? ⟨A, 1, none⟩ = some (.int .i64 i) ∧ W.cell? ⟨A, 2, none⟩ = some (.int .u32 g)) (first | (with_reducible exact hz1.1) | (exact ⟨d0, d2, d3, d4, d5, d6, d7⟩)) (first
              | (go_at_call 21; (with_reducible refine (OT.out _ (by exact ⟨rfl, rfl, rfl, Nat.le_refl _, fun _ _ => rfl⟩)).mono ?_); rintro e w6 ⟨rfl, L6, O6⟩; have hz1 := FC.out w6 L6.out O6.out))
            all_goals
              clear OT d0 d2 d3 d4 d5 d6 d7 d8 d9 d10
              obtain ⟨⟨d0, d2, d3, d4, d5, d6, d7⟩, d8, d9, d10⟩ := hz1
              go_wp2
              have hov4 : decide ((uu : Int) ≤ (S.now : Int)) = false := by simp; omega
              have hov5 : ¬ ((uu : Int) ≤ (S.now : Int)) := by omega
              have AT : Hid (∀ W, Below w6.heap.size w6 W → Calls Try.prog 28 #[.pointer (some ⟨b, 0, none⟩)] W fun e w' => ∃ p c, e = .returned (.slice p S.D.all.length c) ∧ Hid (RowO w' (.slice p S.D.all.length c) S.D.all) ∧ Hid (LW w w' X b k a (some ⟨gl, 0, none⟩) cl (some ⟨gu, 0, none⟩) cu n true N S) ∧ Hid (Bk w' A 33 #[.int .i64 3, .int .i64 i, .int .u32 g])) := fun W hW =>
                (all_s _ (L6.out.quiet hW).ds rfl).mono fun _ _ ⟨p, c, e, h1, _, h2⟩ => ⟨p, c, e, h1, (L6.out.quiet hW).quiet h2.out, (O6.out.below hW).below h2.out⟩
              clear L6 O6
              go_region_held3 (fun W => W.cell? ⟨X, 0, none⟩ = some (.pointer (some ⟨b, 0, none⟩)) ∧ W.cell? ⟨X, 2, none⟩ = some (.slice (some ⟨gu, 0, none⟩) n cu) ∧ W.cell? ⟨X, 3, none⟩ = some (.int .i64 S.now) ∧ W.cell? ⟨gu, j, none⟩ = some (.int .i64 uu) ∧ W.cell? ⟨A, 0, none⟩ = some (.int .i64 3) ∧ W.cell? ⟨A, 1, none⟩ = some (.int .i64 i) ∧ W.cell? ⟨A, 2, none⟩ = some (.int .u32 g)) (first | (with_reducible exact hz2.1) | (with_reducible exact hz1.1) | (exact ⟨d0, d2, d3, d4, d5, d6, d7⟩)) (first
                | (go_at_call 28; (with_reducible refine (AT.out _ (by exact ⟨rfl, rfl, rfl, Nat.le_refl _, fun _ _ => rfl⟩)).mono ?_); rintro e w7 ⟨p2, cc2, rfl, R7, L7, O7⟩; have hz1 := FC.out w7 L7.out O7.out)
                | (go_at_call 32; (with_reducible refine (contains_yes p2 _ cc2 S.D.t.now (i, g) _ (by simp [Dk.all]) (by have := HAL.out; omega) (R7.out.below (by exact ⟨rfl, rfl, rfl, Nat.le_refl _, fun _ _ => rfl⟩)).rd RP.out.2.2.2.2).mono ?_); rintro e w8 ⟨rfl, hb8⟩; have B8 : Below w7.heap.size w7 w8 := bel2 (by exact ⟨rfl, rfl, rfl, Nat.le_refl _, fun _ _ => rfl⟩) hb8; have L8 := Lib.hid (L7.out.quiet B8); have hz2 := FC.out w8 L8.out (O7.out.below B8); clear hb8 B8))
              all_goals
                go_wp2
                go_roundw
                case rel => exact ⟨j + 1, by omega, by go_num, L8.out⟩
                case measure => simp [intOf]; omega
    · obtain rfl : j = n := by omega
      clear hlt hj
      go_wp2_with (go_at_call 10; refine (works_ok _).mono ?_; rintro e w8 ⟨rfl, hb⟩; have H9 := Lib.hid (bel2 HL.out.bel hb); clear hb)
      go_ret
      exact ⟨rfl, H9.out⟩
end Go.Proofs.Ytfemfgpciogbeaa
