/- The walk of LeasesApart: it returns true for every input. -/
import Derived.Test.YtfemfgpciogbeaaYl
namespace Go.Proofs.Ytfemfgpciogbeaa
open Go.RowKit

/-- What a lease is: granted until its time, or given back. -/
theorem Lw.Ok.row_any {S : Lw} {N j u : Nat} {r : Nat × Nat} (h : S.Ok N) (h1 : S.L[j]? = some r) (h2 : S.U[j]? = some u) :
    (S.D.til 3 r.1 r.2 : Int) = u ∧ ((S.D.chk 3 r.1 r.2 = 0) ∨ (S.D.chk 3 r.1 r.2 = 7)) := by
  rcases Nat.eq_zero_or_pos u with rfl | h3
  · have c := h.chk_zero h1 h2
    refine ⟨?_, .inr c⟩
    unfold Dk.til; rw [if_neg (by rw [c]; decide)]
  · obtain ⟨c, hu⟩ := h.chk_pos h1 h2 h3
    refine ⟨?_, .inl c⟩
    unfold Dk.til; rw [if_pos c, Int.toNat_natCast, hu]

set_option maxRecDepth 1000000 in
set_option maxHeartbeats 4000000 in
theorem yApt_walk (x0 : Int) (a0 : Option Addr) (len cap : Nat) (s : Nat → Mv) (mw mk mi mt : Nat) (w : World) (h00 : 0 ≤ x0) (h01 : x0 ≤ 255) (l : len ≤ cap) (m : cap ≤ 9223372036854775807) (u : Mvs w a0 len s) (q : mw ≤ 255) (r : mk ≤ 255) (t : mi ≤ 255) (y : mt ≤ 255) :
    Calls Try.prog 7 #[.int .u8 x0, .slice a0 len cap, .agg #[.int .u8 mw, .int .u8 mk, .int .u8 mi, .int .u8 mt]] w fun e w' => e = .returned (.bool true) ∧ Below w.heap.size w w' := by
  obtain ⟨N, hN⟩ : ∃ N, (len < 100 ∧ N = len) ∨ (len = 100 ∧ N = 100) ∨ (100 < len ∧ N = 100) := by
    rcases Nat.lt_trichotomy len 100 with c | c | c
    · exact ⟨_, .inl ⟨c, rfl⟩⟩
    · exact ⟨_, .inr (.inl ⟨c, rfl⟩)⟩
    · exact ⟨_, .inr (.inr ⟨c, rfl⟩)⟩
  have PL := Lib.hid (played_of x0 1 a0 len cap N 1 s (w.alloc (.cells #[.int .u8 mw, .int .u8 mk, .int .u8 mi, .int .u8 mt] 68)) h00 h01 (.inr (.inl ⟨rfl, rfl⟩)) (by decide) (by decide) hN l m (u.below (bal _ _)))
  have HN : Hid (N ≤ 100) := by unfold Hid; omega
  have h7 : (len : Int) ≤ cap := by omega
  have h8 : (cap : Int) ≤ 9223372036854775807 := by omega
  have MB := Lib.hid (Bk.new w 68 #[.int .u8 mw, .int .u8 mk, .int .u8 mi, .int .u8 mt])
  have BW : Hid (Below w.heap.size w (w.alloc (.cells #[.int .u8 mw, .int .u8 mk, .int .u8 mi, .int .u8 mt] 68))) := bal _ _
  have HM := Lib.hid (And.intro q (And.intro r (And.intro t y)))
  clear hN u l m q r t y
  go_enter Try.func7, Try.ntmps7
  go_wp2_with fail
  refine PL.out.mono ?_
  rintro e w1 ⟨X, rfl, HL⟩
  obtain ⟨b, k, a, pl, cl, pu, cu, n, S, hl, _⟩ := HL.out
  clear HL PL
  have MB1 := Lib.hid (MB.out.below hl.bel)
  clear MB
  generalize (w.alloc (.cells #[.int .u8 mw, .int .u8 mk, .int .u8 mi, .int .u8 mt] 68)) = wB at *
  obtain ⟨c0, c1, c2, c3, c4, c5⟩ := hl.cells
  have L := Lib.hid hl
  have hnz : (n : Int) ≤ 100 := by have h2 := hl.ok.ll; have := hl.ln; have := HN.out; omega
  have CL := Lib.hid (lclone_ok w1 hl.un (by omega) hl.hu)
  have FT : Hid (∀ g, LFt X b k a pl pu g → g < w1.heap.size) := fun g hg => hl.foot hg
  clear hl
  go_wp2_with fail
  refine CL.out.mono ?_
  rintro e w2 ⟨pb, cb, rfl, RB, hb2⟩
  have L2 := Lib.hid (L.out.quiet hb2.out)
  have MB2 := Lib.hid (MB1.out.below hb2.out)
  generalize w1.heap.size = b1 at *
  clear L hb2 CL MB1 c0 c1 c2 c3 c4 c5
  have ST := Lib.hid (step_ok L2.out (by have := HN.out; omega) mw mk mi mt HM.out.1 HM.out.2.1 HM.out.2.2.1 HM.out.2.2.2)
  have m0 := MB2.out.cell 0
  have m1 := MB2.out.cell 1
  have m2 := MB2.out.cell 2
  have m3 := MB2.out.cell 3
  simp only [List.getElem?_toArray, List.getElem?_cons_zero, List.getElem?_cons_succ] at m0 m1 m2 m3
  clear MB2 HM
  go_wp2_with fail
  refine ST.out.mono ?_
  rintro e w3 ⟨rfl, HS⟩
  obtain ⟨⟨pl', cl', pu', cu', n', S', h3, ho, _⟩, hk⟩ := HS.out
  have R3 : Hid (w3.ownsRow b1 2 1 (.slice pb n cb) n (us S.U)) := own_step RB.out hk FT.out
  have HUN := Lib.hid L2.out.un
  obtain ⟨K, hK⟩ := ho.at
  have HK := Lib.hid hK
  have L3 := Lib.hid h3
  have hnz2 : (n' : Int) ≤ 101 := by have h2 := h3.ok.ll; have := h3.ln; have := HN.out; omega
  obtain ⟨c0, c1, c2, c3, c4, c5⟩ := h3.cells
  clear ho hk h3 HS ST L2 RB FT m0 m1 m2 m3 hK
  go_wp2
  go_loopw [9, 36] (fun m v wr => ∃ j : Nat, j ≤ n' ∧ v = .int .i64 j ∧ ((m = .int .i64 0) ∨ (m = .int .i64 1 ∧ K < j)) ∧ Hid (LW wB wr X b k a pl' cl' pu' cu' n' true (N + 1) S') ∧ Hid (wr.ownsRow b1 2 1 (.slice pb n cb) n (us S.U))) (fun _ v _ => n' - (intOf v).toNat)
  case atStart => exact ⟨0, Nat.zero_le _, rfl, .inl rfl, L3.out, R3.out⟩
  case round =>
    obtain ⟨j, hj, rfl, hmm, HL, HR⟩ := hrel
    clear L3 R3 c0 c1 c2 c3 c4 c5
    by_cases hlt : j < n'
    · obtain ⟨rr, hr⟩ : ∃ r, S'.L[j]? = some r := ⟨_, List.getElem?_eq_getElem (by rw [HL.out.ln]; exact hlt)⟩
      obtain ⟨uu, hu⟩ : ∃ u, S'.U[j]? = some u := ⟨_, List.getElem?_eq_getElem (by rw [HL.out.un]; exact hlt)⟩
      obtain ⟨gl, rfl, l1, q0, q1, q2⟩ := HL.out.atl hr
      obtain ⟨gu, rfl, l2, q3, q4⟩ := HL.out.atu hu
      obtain ⟨i, g⟩ := rr
      simp only at q1 q2
      obtain ⟨c0, c1, c2, c3, c4, c5⟩ := HL.out.cells
      have hjz : (j : Int) < n' := by omega
      have R0 := Lib.hid (And.intro hr hu)
      have SAME : Hid (j ≠ K → S.U[j]? = some uu) := fun hne => HK.out j uu hu hne
      have hub : (uu : Int) ≤ 800 := by have := HL.out.ok.uu j uu hu; have := HN.out; omega
      obtain ⟨e1, hE⟩ := HL.out.ok.row_any hr hu
      simp only at e1 hE
      obtain ⟨E, hEe⟩ : ∃ E, S'.D.chk 3 i g = E := ⟨_, rfl⟩
      rw [hEe] at hE
      have RP := Lib.hid (And.intro e1 hEe)
      clear hr hu e1 hEe
      obtain ⟨mz, hmz⟩ : ∃ c : Int, _ = Value.int .i64 c := hmm.elim (fun h => ⟨0, h⟩) (fun h => ⟨1, h.1⟩)
      subst hmz
      have HZ : Hid (mz = 0 ∨ (mz = 1 ∧ K < j)) := by
        rcases hmm with h | ⟨h, h'⟩
        · injection h with _ h; exact .inl h
        · injection h with _ h; exact .inr ⟨h, h'⟩
      have hz1 : 0 ≤ mz := by have := HZ.out; omega
      have hz2 : mz ≤ 1 := by have := HZ.out; omega
      clear hmm
      go_wp2
      have LN : Hid (LW wB (wr.alloc (.cells #[.int .i64 3, .int .i64 i, .int .u32 g] 33)) X b k a (some ⟨gl, 0, none⟩) cl' (some ⟨gu, 0, none⟩) cu' n' true (N + 1) S') := HL.out.quiet (bal _ _)
      have RN : Hid ((wr.alloc (.cells #[.int .i64 3, .int .i64 i, .int .u32 g] 33)).ownsRow b1 2 1 (.slice pb n cb) n (us S.U)) := own_below HR.out (bal _ _)
      have OA := Lib.hid (Bk.new wr 33 #[.int .i64 3, .int .i64 i, .int .u32 g])
      clear HL HR
      generalize wr.alloc (.cells #[.int .i64 3, .int .i64 i, .int .u32 g] 33) = wa at *
      generalize wr.heap.size = A at *
      have FC : Hid (∀ W, LW wB W X b k a (some ⟨gl, 0, none⟩) cl' (some ⟨gu, 0, none⟩) cu' n' true (N + 1) S' → Bk W A 33 #[.int .i64 3, .int .i64 i, .int .u32 g] → (W.cell? ⟨X, 0, none⟩ = some (.pointer (some ⟨b, 0, none⟩)) ∧ W.cell? ⟨X, 2, none⟩ = some (.slice (some ⟨gu, 0, none⟩) n' cu') ∧ W.cell? ⟨gu, j, none⟩ = some (.int .i64 uu) ∧ W.cell? ⟨A, 0, none⟩ = some (.int .i64 3) ∧ W.cell? ⟨A, 1, none⟩ = some (.int .i64 i) ∧ W.cell? ⟨A, 2, none⟩ = some (.int .u32 g)) ∧ gu < W.heap.size ∧ A < W.heap.size ∧ X < W.heap.size) := fun W h1 h2 => by
        obtain ⟨c0, _, c2, _, _, c5⟩ := h1.cells
        obtain ⟨a0, a1, a2, a3⟩ := ob_cells h2
        obtain ⟨gu', e, l2, q3, _⟩ := h1.atu R0.out.2
        injection e with e
        injection e with e
        subst e
        exact ⟨⟨c0, c2, q3, a0, a1, a2⟩, l2, a3, c5⟩
      have RG : Hid (RgO 3 i g) := by
        obtain ⟨rb1, rb2⟩ := LN.out.ok.rg R0.out.1
        exact ⟨by omega, by omega, by omega, by omega, by simp only at rb2; omega, by simp only at rb2; omega⟩
      have UT : Hid (∀ W, Below wa.heap.size wa W → Calls Try.prog 19 #[.pointer (some ⟨b, 0, none⟩), .agg #[.int .i64 3, .int .i64 i, .int .u32 g]] W fun e w' => e = .returned (.tuple #[.int .i64 uu, .int .i64 E]) ∧ Hid (LW wB w' X b k a (some ⟨gl, 0, none⟩) cl' (some ⟨gu, 0, none⟩) cu' n' true (N + 1) S') ∧ Hid (Bk w' A 33 #[.int .i64 3, .int .i64 i, .int .u32 g]) ∧ Hid (w'.ownsRow b1 2 1 (.slice pb n cb) n (us S.U))) := fun W hW =>
        (until_s 3 i g uu E (LN.out.quiet hW).ds RG.out RP.out.1 RP.out.2).mono fun _ _ ⟨e, _, h2⟩ => ⟨e, (LN.out.quiet hW).quiet h2.out, (OA.out.below hW).below h2.out, own_below (own_below RN.out hW) h2.out⟩
      obtain ⟨⟨d0, d2, d4, d5, d6, d7⟩, d8, d9, d10⟩ := FC.out wa LN.out OA.out
      clear LN OA RN l1 l2 q0 q1 q2 q3 q4 c0 c1 c2 c3 c4 c5
      go_region_held3 (fun W => W.cell? ⟨X, 0, none⟩ = some (.pointer (some ⟨b, 0, none⟩)) ∧ W.cell? ⟨X, 2, none⟩ = some (.slice (some ⟨gu, 0, none⟩) n' cu') ∧ W.cell? ⟨gu, j, none⟩ = some (.int .i64 uu) ∧ W.cell? ⟨A, 0, none⟩ = some (.int .i64 3) ∧ W.cell? ⟨A, 1, none⟩ = some (.int .i64 i) ∧ W.cell? ⟨A, 2, none⟩ = some (.int .u32 g)) (first | (with_reducible exact hz5.1) | (exact ⟨d0, d2, d4, d5, d6, d7⟩)) (first
        | (go_at_call 19; (with_reducible refine (UT.out _ (by exact ⟨rfl, rfl, rfl, Nat.le_refl _, fun _ _ => rfl⟩)).mono ?_); rintro e w5 ⟨rfl, L5, O5, R5⟩; have hz5 := FC.out w5 L5.out O5.out))
      all_goals
        clear UT d0 d2 d4 d5 d6 d7 d8 d9 d10
        obtain ⟨⟨d0, d2, d4, d5, d6, d7⟩, d8, d9, d10⟩ := hz5
        by_cases hjn : j < n
        · obtain ⟨ub, hub0⟩ : ∃ u, S.U[j]? = some u := ⟨_, List.getElem?_eq_getElem (by rw [HUN.out]; exact hjn)⟩
          obtain ⟨gb, rfl, t1, t2, t3⟩ := row_atu R5.out HUN.out hub0
          have hjnz : (j : Int) < n := by omega
          by_cases he : ub = uu
          · subst he
            rcases hE with rfl | rfl
            all_goals
              go_wp2
              go_roundw
              case rel => exact ⟨j + 1, by omega, by go_num, HZ.out.elim (fun h => .inl (by rw [h])) (fun h => .inr ⟨by rw [h.1], by omega⟩), L5.out, R5.out⟩
              case measure => simp [intOf]; omega
          · have hjK := Lib.hid <| Decidable.byContradiction (p := j = K) fun hne => he (Option.some.inj (hub0.symm.trans (SAME.out hne)))
            have hm0 : mz = 0 := by have := HZ.out; have := hjK.out; omega
            subst hm0
            have he2 : ((ub : Int) == (uu : Int)) = false := beq_eq_false_iff_ne.2 (by omega)
            have he3 : ¬ ((ub : Int) = (uu : Int)) := by omega
            clear HZ SAME hub0
            rcases hE with rfl | rfl
            all_goals
              go_wp2
              go_roundw
              case rel => exact ⟨j + 1, by omega, by go_num, .inr ⟨rfl, by have := hjK.out; omega⟩, L5.out, R5.out⟩
              case measure => simp [intOf]; omega
        · have hjK := Lib.hid <| Decidable.byContradiction (p := j = K) fun hne => by
            have := (List.getElem?_eq_some_iff.1 (SAME.out hne)).1
            rw [HUN.out] at this
            exact hjn this
          have hm0 : mz = 0 := by have := HZ.out; have := hjK.out; omega
          subst hm0
          have hjnz : (n : Int) ≤ j := by omega
          clear HZ SAME
          rcases hE with rfl | rfl
          all_goals
            go_wp2
            go_roundw
            case rel => exact ⟨j + 1, by omega, by go_num, .inr ⟨rfl, by have := hjK.out; omega⟩, L5.out, R5.out⟩
            case measure => simp [intOf]; omega
    · obtain rfl : j = n' := by omega
      clear hlt hj
      have HB := Lib.hid (bel2 BW.out HL.out.bel)
      rcases hmm with rfl | ⟨rfl, _⟩
      all_goals
        go_wp2_with (go_at_call 10; refine (works_ok _).mono ?_; rintro e w8 ⟨rfl, hb⟩; have H9 := Lib.hid (bel2 HB.out hb); clear hb)
        go_ret
        exact ⟨rfl, H9.out⟩
end Go.Proofs.Ytfemfgpciogbeaa
