/- The walk of BufsPlays: it returns true for every input. -/
import Derived.Test.YtjhgckaaaonbiaaVi
import Derived.Test.YtjhgckaaaonbiaaUw
import Derived.Test.YtjhgckaaaonbiaaUy
import Derived.Deep.Cut
import Derived.Deep.CutRange
import Derived.Deep.RegionHeld3
import Derived.Lib.AppendZeros
namespace Go.Proofs.Ytjhgckaaaonbiaa
open Go.RowKit

section
variable {w0 w w' : World} {b s k c X C : Nat} {F G : Po} {u v : Value} {pa : Option Addr} {qn cg : Nat} {D N xx yy : Int} {zz p q r : Value} {cX cC : Array Value}
theorem Im.cx (h : Im w0 w b s k c F G u v pa qn cg X C #[.int .i64 D, .int .i64 N, .int .i64 xx, .int .i64 yy, zz] cC) : w.cell? ⟨X, 0, none⟩ = some (.int .i64 D) ∧ w.cell? ⟨X, 1, none⟩ = some (.int .i64 N) := ⟨h.bX.cell 0, h.bX.cell 1⟩
theorem Im.cc (h : Im w0 w b s k c F G u v pa qn cg X C cX #[p, q, r]) : w.cell? ⟨C, 0, none⟩ = some p ∧ w.cell? ⟨C, 1, none⟩ = some q ∧ w.cell? ⟨C, 2, none⟩ = some r ∧ (∀ i, w.frozen? ⟨C, i, none⟩ = false) := ⟨h.bC.cell 0, h.bC.cell 1, h.bC.cell 2, h.bC.frozen⟩
/-- One name more behind what was given. -/
theorem im_app (K I Nn : Int) (h : Im w0 w b s k c F G u v pa qn cg X C cX cC) (hg : ∀ g, (Value.slice pa qn cg).ownBlock = some g → g < X) (hXC : X < C) (hq : qn ≤ 200) : ∃ p2 cg2 w', (Builtin.append_ #[32, 32] 32 #[.slice pa qn cg, .slice (some ⟨w.heap.size, 0, none⟩) 1 1]).run Try.prog (w.alloc (.cells #[.int .i64 K, .int .i64 I, .int .u32 Nn] 34)) = .ok (.slice p2 (qn + 1) cg2) w' ∧
    Hid (Im w0 w' b s k c F G u v p2 (qn + 1) cg2 X C cX cC) ∧ Hid (∀ g, (Value.slice p2 (qn + 1) cg2).ownBlock = some g → g ≠ C) ∧ Hid (∀ A cA, X ≤ A → Bk w A 34 cA → Bk w' A 34 cA) := by
  obtain ⟨j0, hj, hy0, hy1, hy2⟩ := info_parts info_out
  have hA := h.quiet ((Below.refl _ w).alloc (Nat.le_refl _) (.cells #[.int .i64 K, .int .i64 I, .int .u32 Nn] 34))
  obtain ⟨L, h3, h4⟩ := hA.row
  have hn := Bk.new w 34 #[.int .i64 K, .int .i64 I, .int .u32 Nn]
  have hb := h.st.bel.size
  obtain ⟨v', W', hrun, hown, hgr, _, hfr⟩ := run_append_own_at (P := Try.prog) _ w0.heap.size 32 32 34 j0 _ 3 24 Try.underlying32 hj hy0 hy1 hy2 rfl (by decide) (.slice pa qn cg) qn (ocls L) h4 ⟨w.heap.size, 0, none⟩ 1 1 (Ro.cl ⟨K, I, Nn⟩) rfl (fun j u hj => by
      have e : (⟨w.heap.size, 0, none⟩ : Addr).add j = ⟨w.heap.size, j, none⟩ := by unfold Addr.add; split <;> simp_all
      rw [e, hn.cell]
      simpa [Ro.cl] using hj) (Ro.cl_one _) (by unfold maxLen; omega) (by omega) (by simp; omega)
  have hown2 : W'.ownsRow w0.heap.size 34 3 v' (qn + 1) (ocls (L ++ [Ro.mk K I Nn])) := by rw [ocls_snoc]; exact hown
  obtain ⟨p', c', rfl⟩ : ∃ p' c', v' = .slice p' (qn + 1) c' := by
    have : W'.ownsRow w0.heap.size 34 3 v' (L ++ [Ro.mk K I Nn]).length (ocls (L ++ [Ro.mk K I Nn])) := by rw [List.length_append, h3]; exact hown2
    obtain ⟨p', c', e⟩ := own_form this
    rw [List.length_append, h3] at e
    exact ⟨p', c', e⟩
  have hk : Kept (fun g => (Value.slice pa qn cg).ownBlock = some g) (w.alloc (.cells #[.int .i64 K, .int .i64 I, .int .u32 Nn] 34)) W' := ⟨hgr.os, hgr.tape, hgr.output, hgr.size, fun k hk hs => hgr.block k hk fun e => hs e.symm⟩
  have hcl := h.bC.lt
  refine ⟨p', c', W', hrun, hA.row2 hk (fun g e => by have := hg g e; omega) ⟨_, by rw [List.length_append, h3]; rfl, hown2⟩, fun g e => ?_, fun A cA hXA hbA => (hbA.up _).kept hk fun e => by have := hg A e; omega⟩
  rcases hfr with e2 | e2
  · rw [e2] at e; have := hg g e; omega
  · rw [e2] at e
    have : (w.alloc (.cells #[.int .i64 K, .int .i64 I, .int .u32 Nn] 34)).heap.size = g := Option.some.inj e
    have e3 : (w.alloc (.cells #[.int .i64 K, .int .i64 I, .int .u32 Nn] 34)).heap.size = w.heap.size + 1 := by simp
    omega
end
/-- At the loop's head. -/
structure Hd (w0 w : World) (b s k c : Nat) (F : Po) (u v : Value) (pa : Option Addr) (qn cg : Nat) : Prop where
  st : PSt w0 w b s k F
  dw : ∃ d, DW w c d F ∧ w0.heap.size ≤ d
  lc : w0.heap.size ≤ c
  old : Old w0 w (QFoot b s k c) u v
  row : ∃ L : List Ro, L.length = qn ∧ w.ownsRow w0.heap.size 34 3 (.slice pa qn cg) qn (ocls L)
section
variable {w0 w w' : World} {b s k c X C : Nat} {F G : Po} {u v : Value} {pa : Option Addr} {qn cg : Nat} {cX cC : Array Value}
theorem Im.hd (h : Im w0 w b s k c F F u v pa qn cg X C cX cC) : Hd w0 w b s k c F u v pa qn cg := ⟨h.st, h.dw, h.lc, h.old, h.row⟩
theorem Hd.im (h : Hd w0 w b s k c F u v pa qn cg) (q : Below w.heap.size w w') (hX : Bk w' X 36 cX) (hC : Bk w' C 34 cC) : Im w0 w' b s k c F F u v pa qn cg X C cX cC := by
  obtain ⟨e, h1, h2⟩ := h.dw
  obtain ⟨L, h3, h4⟩ := h.row
  exact ⟨h.st.quiet q, ⟨e, h1.below q, h2⟩, h.lc, h.old.below q, ⟨L, h3, own_below h4 q⟩, hX, hC⟩
end
/-- The place in what was given. -/
theorem idx_mod (N : Int) (q : Nat) (h0 : 0 < q) (h1 : q ≤ 200) : ∃ R : Int, N.tmod (q : Int) = R ∧ -200 ≤ R ∧ R ≤ 200 ∧ 0 ≤ R + q ∧ ∃ i : Nat, i < q ∧ (R + q).tmod (q : Int) = i := by
  have h2 : (q : Int) ≠ 0 := by omega
  have e1 := Int.tmod_lt_of_pos N (show (0 : Int) < q by omega)
  have e2 : -(q : Int) < N.tmod q := by
    rcases Int.le_total 0 N with h | h
    · have := Int.tmod_nonneg (q : Int) h; omega
    · have h3 := Int.tmod_lt_of_pos (-N) (show (0 : Int) < q by omega)
      rw [Int.neg_tmod] at h3; omega
  refine ⟨N.tmod q, rfl, by omega, by omega, by omega, ((N.tmod q + q) % q).toNat, ?_, ?_⟩
  · have := Int.emod_lt_of_pos (N.tmod q + q) (show (0 : Int) < q by omega)
    have := Int.emod_nonneg (N.tmod q + q) h2
    omega
  · rw [Int.tmod_eq_emod_of_nonneg (by omega), Int.toNat_of_nonneg (Int.emod_nonneg _ h2)]
set_option maxHeartbeats 2000000 in
set_option maxRecDepth 100000 in
theorem plays_works (n r g : Int) (a : Option Addr) (len cap : Nat) (w : World) (hl : 150 < len) :
    Calls Try.prog 3 #[.int .i64 n, .int .i64 r, .int .u32 g, .slice a len cap] w fun e w' => e = .returned (.bool true) ∧ Below w.heap.size w w' := by
  have h : (150 : Int) < len := by omega
  clear hl
  go_enter Try.func3, Try.ntmps3
  go_wp2_with (go_at_call 10; refine (works_ok _).mono ?_; rintro e w' ⟨rfl, hb⟩; have HB := Lib.hid hb; clear hb)
  go_ret
  exact ⟨rfl, HB.out⟩
set_option maxHeartbeats 2000000 in
set_option maxRecDepth 100000 in
theorem plays_bad (n r g : Int) (a : Option Addr) (len cap : Nat) (w : World) (hn : I64 n) (hr : I64 r) (hg : 0 ≤ g ∧ g ≤ 4294967295) (hl : len ≤ 150) (h : PBad n r g) :
    Calls Try.prog 3 #[.int .i64 n, .int .i64 r, .int .u32 g, .slice a len cap] w fun e w' => e = .returned (.bool true) ∧ Below w.heap.size w w' := by
  have HN := Lib.hid (fun W => pnew_bad n r g W hn hr hg h)
  have HD := Lib.hid (fun W => dnew_bad n r g W hn hr hg h)
  have hl2 : (len : Int) ≤ 150 := by omega
  clear hn hr hg h hl
  go_enter Try.func3, Try.ntmps3
  go_wp2_with (first
    | (go_at_call 11; refine (HN.out _).mono ?_; rintro e s ⟨rfl, rfl⟩)
    | (go_at_call 12; refine (HD.out _).mono ?_; rintro e s ⟨rfl, rfl⟩))
  go_loopw [14, 16] (fun v u wr => v = .pointer none ∧ u = .int .i64 0 ∧ w = wr) (fun _ _ _ => 0)
  case atStart => exact ⟨rfl, rfl, rfl⟩
  case round =>
    obtain ⟨rfl, rfl, rfl⟩ := hrel
    by_cases h0 : (0 : Int) < len
    · go_wp2_with (go_at_call 10; refine (works_ok _).mono ?_; rintro e w' ⟨rfl, hb⟩; have HB := Lib.hid hb; clear hb)
      go_ret
      exact ⟨rfl, HB.out⟩
    · go_wp2_with (go_at_call 10; refine (works_ok _).mono ?_; rintro e w' ⟨rfl, hb⟩; have HB := Lib.hid hb; clear hb)
      go_ret
      exact ⟨rfl, HB.out⟩
set_option maxHeartbeats 8000000 in
set_option maxRecDepth 1000000 in
theorem plays_core (n r g : Nat) (a : Option Addr) (len cap : Nat) (dos ns : Nat → Int) (o : Nat → Ro) (w : World) (h1 : 1 ≤ n) (h2 : n ≤ 64) (h3 : 1 ≤ g) (h4 : g ≤ 4294967295) (h5 : 1 ≤ r) (h6 : r ≤ 16777216) (hl : len ≤ 150) (hu : St10 w a len dos ns o) :
    Calls Try.prog 3 #[.int .i64 n, .int .i64 r, .int .u32 g, .slice a len cap] w fun e w' => e = .returned (.bool true) ∧ Below w.heap.size w w' := by
  have HU := Lib.hid hu
  have NW := Lib.hid (pnew_ok n r g w h1 h2 h3 h4 h5 h6)
  have ND : Hid (∀ W, _) := Lib.hid (fun W => dnew_ok n r g W h1 h2 h3 h4 h5 h6)
  have hl2 : (len : Int) ≤ 150 := by omega
  clear hu h1 h2 h3 h4 h5 h6
  go_enter Try.func3, Try.ntmps3
  go_wp2_with (first
    | (go_at_call 11; refine NW.out.mono ?_; rintro e w1 ⟨b, rfl, hF⟩; have H1 := Lib.hid hF; clear hF)
    | (go_at_call 12; refine (ND.out w1).mono ?_; rintro e w2 ⟨c, rfl, hD⟩; have H2 := Lib.hid hD; clear hD))
  have H0 : Hid (∃ s k F, Hd w w2 b s k c F (.pointer none) (.pointer none) none 0 0) := by
    obtain ⟨s, k, h1⟩ := PSt.new H1.out
    obtain ⟨d, d1, d2, d3, d4⟩ := H2.out.out
    exact ⟨s, k, _, h1.quiet d4, ⟨d, d1, Nat.le_trans h1.bel.size d3⟩, Nat.le_trans h1.bel.size d2, .inl rfl, ⟨[], rfl, World.ownsRow_nil _ _ _ _⟩⟩
  clear H1 H2 NW ND
  go_loopw [9, 11, 13, 14, 15, 16] (fun v9 v11 v13 v14 v15 u wr => ∃ (j b c q cg : Nat) (p : Option Addr), j ≤ len ∧ q ≤ j ∧ v9 = .pointer (some ⟨b, 0, none⟩) ∧ v11 = .pointer (some ⟨c, 0, none⟩) ∧ v13 = .slice p q cg ∧ u = .int .i64 j ∧ Hid (∃ s k F, Hd w wr b s k c F v14 v15 p q cg)) (fun _ _ _ _ _ u _ => len - (intOf u).toNat)
  case atStart => exact ⟨0, b, c, 0, 0, none, Nat.zero_le _, Nat.le_refl _, rfl, rfl, rfl, rfl, H0.out⟩
  case round =>
    clear H0
    obtain ⟨j, b', c', q, cg, pa, hj, hqj, rfl, rfl, rfl, rfl, HS0⟩ := hrel
    obtain ⟨s, k, F, HS1⟩ := HS0.out
    have HS := Lib.hid HS1
    clear HS0 HS1
    have hbw : Hid (Below w.heap.size w wr) := HS.out.st.bel
    by_cases hlt : j < len
    · obtain ⟨B, off, rfl, hB, hcells⟩ := (HU.out.below hbw.out).at_ (by omega)
      obtain ⟨hc0, hc1, hc2, hc3, hc4⟩ := hcells j hlt
      obtain ⟨hN, hRg⟩ := HU.out.bd j hlt
      generalize o j = ro at *
      obtain ⟨xx, yy, zz⟩ := ro
      clear hcells hRg
      simp only at hc2 hc3 hc4
      generalize dos j = D at *
      generalize ns j = N at *
      have HN := Lib.hid hN
      clear hN
      have hj150 : (j : Int) ≤ 149 := by omega
      go_upto_region 14 with fail
      rename_i K hK
      have hK' := fun a w (h : Hid (∀ K2 : Act → World → Prop, _ → _)) => hK a w (wp_seq_k h.out)
      clear hK
      go_wp2_with fail
      intro K2 hK2
      have hbX : Below wr.heap.size wr (wr.alloc (.cells #[.int .i64 D, .int .i64 N, .int .i64 xx, .int .i64 yy, .int .u32 zz] 36)) := (Below.refl _ wr).alloc (Nat.le_refl _) _
      have hX := Bk.new wr 36 #[.int .i64 D, .int .i64 N, .int .i64 xx, .int .i64 yy, .int .u32 zz]
      have hsz : (wr.alloc (.cells #[.int .i64 D, .int .i64 N, .int .i64 xx, .int .i64 yy, .int .u32 zz] 36)).heap.size = wr.heap.size + 1 := by simp
      clear hc0 hc1 hc2 hc3 hc4
      generalize wr.alloc (.cells #[.int .i64 D, .int .i64 N, .int .i64 xx, .int .i64 yy, .int .u32 zz] 36) = w3 at *
      have hbC : Below w3.heap.size w3 (w3.alloc (.cells #[.int .i64 xx, .int .i64 yy, .int .u32 zz] 34)) := (Below.refl _ w3).alloc (Nat.le_refl _) _
      have hC := Bk.new w3 34 #[.int .i64 xx, .int .i64 yy, .int .u32 zz]
      rw [hsz] at hC
      have HX : Hid (wr.heap.size < wr.heap.size + 1 ∧ w.heap.size ≤ wr.heap.size + 1) := ⟨by omega, by have := hbw.out.size; omega⟩
      have HG : Hid (∀ g, (Value.slice pa q cg).ownBlock = some g → g < wr.heap.size) := fun g hg => by
        obtain ⟨L, _, h4⟩ := HS.out.row
        exact (h4.lt g hg).2
      have IT0 := Lib.hid (HS.out.im (bel2 hbX hbC) (hX.below hbC) hC)
      clear hX hC hbX hbC HS hB hbw hsz
      generalize wr.heap.size + 1 = C at *
      generalize wr.heap.size = X at *
      generalize w3.alloc (.cells #[.int .i64 xx, .int .i64 yy, .int .u32 zz] 34) = w4 at *
      go_cut [18] from 67 to 88 (fun v wx => v = .pointer (some ⟨C, 0, none⟩) ∧ ∃ x y z : Int, Hid (Im w wx b' s k c' F F u14 u15 pa q cg X C #[.int .i64 D, .int .i64 N, .int .i64 xx, .int .i64 yy, .int .u32 zz] #[.int .i64 x, .int .i64 y, .int .u32 z]))
      case first =>
        clear hK2
        obtain ⟨d0, d1⟩ := Im.cx IT0.out
        by_cases hD : D = 2
        · rcases Nat.eq_zero_or_pos q with rfl | hq0
          · subst hD
            go_wp2_with fail
            go_meet
            exact ⟨rfl, xx, yy, zz, IT0.out⟩
          · obtain ⟨R, hR, hR1, hR2, hR3, i, hi, hI⟩ := idx_mod N q hq0 (by omega)
            obtain ⟨L, hL, hrow⟩ := IT0.out.row
            have hrd : RdO w4 (.slice pa q cg) L := RdO.of_own (by rw [hL]; exact hrow)
            have hil : i < L.length := by rw [hL]; exact hi
            obtain ⟨g', off', rfl, hg', t0, t1, t2⟩ := hrd.cell hil
            generalize L[i] = e at *
            obtain ⟨pp, qq, rr⟩ := e
            simp only at t0 t1 t2
            obtain ⟨c0, c1, c2, cf⟩ := Im.cc IT0.out
            have hq2 : q ≠ 0 := by omega
            have hq1 : (0 : Int) < q := by omega
            have hi2 : (i : Int) < q := by omega
            have hqc : (q : Int) ≤ 150 := by omega
            have HC : Hid (∀ g, (Value.slice (some ⟨g', off', none⟩) q cg).ownBlock = some g → g ≠ C) := fun g hg => by have := HG.out g hg; have := HX.out.1; omega
            subst hD
            clear hrow hrd hil hL
            go_wp2_with fail
            go_meet
            exact ⟨rfl, pp, qq, rr, ((IT0.out.store HC.out HX.out.2 0 (.int .i64 pp)).store HC.out HX.out.2 1 (.int .i64 qq)).store HC.out HX.out.2 2 (.int .u32 rr)⟩
        · have e2 : (D == 2) = false := by simpa using hD
          clear hD
          go_wp2_with fail
          go_meet
          exact ⟨rfl, xx, yy, zz, IT0.out⟩
      case rest =>
        obtain ⟨rfl, x, y, z, IT⟩ := hcut
        clear IT0
        go_upto_region 17 with fail
        rename_i K3 hK3
        have hK4 : ∀ a w, Hid _ → K3 a w := fun a w h => hK3 a w h.out
        clear hK3
        obtain ⟨d0, d1⟩ := Im.cx IT.out
        go_wp2_with fail
        unfold Hid
        go_cut [9, 11, 13, 14, 15, 19, 20, 21, 22] from 91 to 146 (fun v9 v11 v13 v14 v15 v19 v20 v21 v22 wx => ∃ (b2 c2 q2 cg2 : Nat) (p2 : Option Addr), q2 ≤ j + 1 ∧ v9 = .pointer (some ⟨b2, 0, none⟩) ∧ v11 = .pointer (some ⟨c2, 0, none⟩) ∧ v13 = .slice p2 q2 cg2 ∧ Hid (∃ s2 k2 F2 x y z, Im w wx b2 s2 k2 c2 F2 F2 v14 v15 p2 q2 cg2 X C #[.int .i64 D, .int .i64 N, .int .i64 xx, .int .i64 yy, .int .u32 zz] #[.int .i64 x, .int .i64 y, .int .u32 z]))
        case first =>
          have CC : Hid (∀ W F' F'', Im w W b' s k c' F' F'' u14 u15 pa q cg X C #[.int .i64 D, .int .i64 N, .int .i64 xx, .int .i64 yy, .int .u32 zz] #[.int .i64 x, .int .i64 y, .int .u32 z] → W.cell? ⟨C, 0, none⟩ = some (.int .i64 x) ∧ W.cell? ⟨C, 1, none⟩ = some (.int .i64 y) ∧ W.cell? ⟨C, 2, none⟩ = some (.int .u32 z)) := fun W F' F'' h => ⟨h.cc.1, h.cc.2.1, h.cc.2.2.1⟩
          by_cases hD0 : D = 0
          · subst hD0
            obtain ⟨K0, I0, N0, E0, F', OP1, OP2⟩ := im_pin2 N F
            have HO1 := Lib.hid OP1
            have HO2 := Lib.hid OP2
            clear OP1 OP2 CC
            by_cases hE : E0 = 0
            · subst hE
              go_upto_region 24 with (first
                | (go_at_call 13; refine (HO1.out _ _ _ _ _ _ _ _ _ _ _ _ _ _ _ IT.out).mono ?_; rintro e s1 ⟨rfl, J1⟩; have J2 := Lib.hid (J1.out.quiet ((Below.refl _ s1).alloc (Nat.le_refl _) (.cells #[.int .i64 K0, .int .i64 I0, .int .u32 N0] 34))); have B1 := Lib.hid (Bk.new s1 34 #[.int .i64 K0, .int .i64 I0, .int .u32 N0]); have A1 := Lib.hid (Nat.le_of_lt J1.out.bX.lt); obtain ⟨f0, f1⟩ := Im.cx J2.out; clear J1 d0 d1)
                | (go_at_call 14; refine (HO2.out _ _ _ _ _ _ _ _ _ _ _ _ _ _ _ J2.out).mono ?_; rintro e s2 ⟨rfl, J3, hD⟩; have J4 := Lib.hid (J3.out.quiet ((Below.refl _ s2).alloc (Nat.le_refl _) (.cells #[.int .i64 K0, .int .i64 I0, .int .u32 N0] 34))); have B2 := Lib.hid ((hD.out _ _ B1.out).up (.cells #[.int .i64 K0, .int .i64 I0, .int .u32 N0] 34)); have B3 := Bk.new s2 34 #[.int .i64 K0, .int .i64 I0, .int .u32 N0]; obtain ⟨k0, k1, k2, _⟩ := ob_cells B2.out; obtain ⟨l0, l1, l2, _⟩ := ob_cells B3; clear J3 hD B3 f0 f1))
              generalize s2.alloc (.cells #[.int .i64 K0, .int .i64 I0, .int .u32 N0] 34) = s4 at *
              obtain ⟨p6, cg6, s6, hrun, J6, G6, K6⟩ := im_app K0 I0 N0 J4.out HG.out HX.out.1 (by omega)
              have B6 := Lib.hid (K6.out _ _ A1.out B2.out)
              obtain ⟨m0, m1, m2, _⟩ := ob_cells B6.out
              obtain ⟨v0, v1, v2, vf⟩ := Im.cc J6.out
              clear l0 l1 l2
              go_wp2_with (at_builtin; refine Lib.wpList_append_run _ rfl _ _ _ _ rfl _ _ rfl rfl _ _ hrun ?_)
              go_meet
              exact ⟨b', c', q + 1, cg6, p6, by omega, rfl, rfl, rfl, s, k, F', K0, I0, N0, ((J6.out.store G6.out HX.out.2 0 (.int .i64 K0)).store G6.out HX.out.2 1 (.int .i64 I0)).store G6.out HX.out.2 2 (.int .u32 N0)⟩
            · have hE2 : (E0 == 0) = false := by simpa using hE
              clear hE
              go_wp2_with (first
                | (go_at_call 13; refine (HO1.out _ _ _ _ _ _ _ _ _ _ _ _ _ _ _ IT.out).mono ?_; rintro e s1 ⟨rfl, J1⟩; have J2 := Lib.hid (J1.out.quiet ((Below.refl _ s1).alloc (Nat.le_refl _) (.cells #[.int .i64 K0, .int .i64 I0, .int .u32 N0] 34))); have B1 := Lib.hid (Bk.new s1 34 #[.int .i64 K0, .int .i64 I0, .int .u32 N0]); obtain ⟨f0, f1⟩ := Im.cx J2.out; clear J1 d0 d1)
                | (go_at_call 14; refine (HO2.out _ _ _ _ _ _ _ _ _ _ _ _ _ _ _ J2.out).mono ?_; rintro e s2 ⟨rfl, J3, hD⟩; have J4 := Lib.hid (J3.out.quiet ((Below.refl _ s2).alloc (Nat.le_refl _) (.cells #[.int .i64 K0, .int .i64 I0, .int .u32 N0] 34))); have B2 := (hD.out _ _ B1.out).up (.cells #[.int .i64 K0, .int .i64 I0, .int .u32 N0] 34); have B3 := Bk.new s2 34 #[.int .i64 K0, .int .i64 I0, .int .u32 N0]; obtain ⟨k0, k1, k2, _⟩ := ob_cells B2; obtain ⟨l0, l1, l2, _⟩ := ob_cells B3; clear J3 hD B2 B3 f0 f1))
              go_meet
              exact ⟨b', c', q, cg, pa, by omega, rfl, rfl, rfl, s, k, F', x, y, z, J4.out⟩
          by_cases hD1 : D = 1
          · subst hD1
            clear hD0
            go_wp2_with fail
            have JD := Lib.hid (IT.out.quiet (bel_drew (Below.refl _ _)))
            have hz0 := CC.out _ _ _ JD.out
            clear IT d0 d1
            go_region_held3 (fun W => W.cell? ⟨C, 0, none⟩ = some (.int .i64 x) ∧ W.cell? ⟨C, 1, none⟩ = some (.int .i64 y) ∧ W.cell? ⟨C, 2, none⟩ = some (.int .u32 z)) (first | (with_reducible exact hz0) | (with_reducible exact hz1) | (with_reducible exact hz2) | (with_reducible exact hz3)) (first
              | (go_at_call 15; (with_reducible refine (im_shows x y z JD.out).mono ?_); rintro e s0 ⟨rfl, hp⟩; have J0 := Lib.hid hp.out; have hz1 := CC.out _ _ _ J0.out; clear hp)
              | (go_at_call 16; (with_reducible refine (im_unpin x y z J0.out).mono ?_); rintro e s1 ⟨rfl, hp⟩; have J1 := Lib.hid hp.out; have hz2 := CC.out _ _ _ J1.out; clear hp)
              | (go_at_call 17; (with_reducible refine (dim_unpin x y z J1.out).mono ?_); rintro e s2 ⟨rfl, hp⟩; have J2 := Lib.hid hp.out; have hz3 := CC.out _ _ _ J2.out; clear hp))
            go_wp2_with fail
            go_meet
            exact ⟨b', c', q, cg, pa, by omega, rfl, rfl, rfl, s, k, _, x, y, z, J2.out⟩
          by_cases hD2 : D = 2
          · subst hD2
            clear hD0 hD1
            go_wp2_with fail
            have JD := Lib.hid (IT.out.quiet (bel_drew (Below.refl _ _)))
            have hz0 := CC.out _ _ _ JD.out
            clear IT d0 d1
            go_region_held3 (fun W => W.cell? ⟨C, 0, none⟩ = some (.int .i64 x) ∧ W.cell? ⟨C, 1, none⟩ = some (.int .i64 y) ∧ W.cell? ⟨C, 2, none⟩ = some (.int .u32 z)) (first | (with_reducible exact hz0) | (with_reducible exact hz1) | (with_reducible exact hz2) | (with_reducible exact hz3)) (first
              | (go_at_call 15; (with_reducible refine (im_shows x y z JD.out).mono ?_); rintro e s0 ⟨rfl, hp⟩; have J0 := Lib.hid hp.out; have hz1 := CC.out _ _ _ J0.out; clear hp)
              | (go_at_call 16; (with_reducible refine (im_unpin x y z J0.out).mono ?_); rintro e s1 ⟨rfl, hp⟩; have J1 := Lib.hid hp.out; have hz2 := CC.out _ _ _ J1.out; clear hp)
              | (go_at_call 17; (with_reducible refine (dim_unpin x y z J1.out).mono ?_); rintro e s2 ⟨rfl, hp⟩; have J2 := Lib.hid hp.out; have hz3 := CC.out _ _ _ J2.out; clear hp))
            go_wp2_with fail
            go_meet
            exact ⟨b', c', q, cg, pa, by omega, rfl, rfl, rfl, s, k, _, x, y, z, J2.out⟩
          by_cases hD3 : D = 3
          · subst hD3
            clear hD0 hD1 hD2 CC
            go_wp2_with (first
              | (go_at_call 18; refine (im_copy IT.out).mono ?_; rintro e s1 ⟨b2, rfl, J1⟩)
              | (go_at_call 19; refine (cp_copy J1.out).mono ?_; rintro e s2 ⟨c2, rfl, J2⟩))
            go_meet
            exact ⟨b2, c2, q, cg, pa, by omega, rfl, rfl, rfl, by obtain ⟨s2, k2, h⟩ := J2.out; exact ⟨s2, k2, F, x, y, z, h⟩⟩
          · have e0 : (D == 0) = false := by simpa using hD0
            have e1 : (D == 1) = false := by simpa using hD1
            have e2 : (D == 2) = false := by simpa using hD2
            have e3 : (D == 3) = false := by simpa using hD3
            clear hD0 hD1 hD2 hD3 CC
            go_wp2_with fail
            go_meet
            exact ⟨b', c', q, cg, pa, by omega, rfl, rfl, rfl, s, k, F, x, y, z, IT.out⟩
        case rest =>
          obtain ⟨b2, c2, q2, cg2, p2, hq2, rfl, rfl, rfl, H2⟩ := hcut
          obtain ⟨s2, k2, F2, x2, y2, z2, h2⟩ := H2.out
          have HM := Lib.hid h2
          clear IT H2 h2
          obtain ⟨v0, v1, v2, _⟩ := Im.cc HM.out
          go_wp2_with (go_at_call 15; (with_reducible refine (im_shows x2 y2 z2 HM.out).mono ?_); rintro e s ⟨rfl, hm⟩; have HM2 := Lib.hid hm.out; clear hm)
          go_roundw
          case rel => exact ⟨j + 1, b2, c2, q2, cg2, p2, by omega, hq2, rfl, rfl, rfl, by go_num, s2, k2, F2, HM2.out.hd⟩
          case measure => simp [intOf]; omega
    · obtain rfl : j = len := by omega
      rcases HS.out.old with e | ⟨b3, s3, k3, c3, d3, F3, e, e2, ho, hdis⟩
      · subst e
        go_wp2_with (go_at_call 10; refine (works_ok _).mono ?_; rintro e w5 ⟨rfl, hb⟩; have HB5 := Lib.hid hb; clear hb)
        go_ret
        exact ⟨rfl, bel2 hbw.out HB5.out⟩
      · subst e e2
        have HO := Lib.hid ho
        clear ho hdis
        go_wp2_with (first
          | (go_at_call 15; (with_reducible refine (shows_ok b3 s3 k3 c3 d3 F3 0 0 0 w _ HO.out).mono ?_); rintro e s ⟨rfl, hb⟩; have HM := Lib.hid (bel2 hbw.out hb); clear hb)
          | (go_at_call 10; refine (works_ok _).mono ?_; rintro e w5 ⟨rfl, hb⟩; have HB5 := Lib.hid hb; clear hb))
        go_ret
        exact ⟨rfl, bel2 HM.out HB5.out⟩
theorem uPla_walk (n r g : Int) (a : Option Addr) (len cap : Nat) (dos ns : Nat → Int) (o : Nat → Ro) (w : World) (n0 : -9223372036854775808 ≤ n) (n1 : n ≤ 9223372036854775807) (r0 : -9223372036854775808 ≤ r) (r1 : r ≤ 9223372036854775807) (g0 : 0 ≤ g) (g1 : g ≤ 4294967295) (_ : len ≤ cap) (_ : cap ≤ 9223372036854775807) (hu : St10 w a len dos ns o) :
    Calls Try.prog 3 #[.int .i64 n, .int .i64 r, .int .u32 g, .slice a len cap] w fun e w' => e = .returned (.bool true) ∧ Below w.heap.size w w' := by
  by_cases hl : 150 < len
  · exact plays_works n r g a len cap w hl
  by_cases hb : PBad n r g
  · exact plays_bad n r g a len cap w ⟨n0, n1⟩ ⟨r0, r1⟩ ⟨g0, g1⟩ (by omega) hb
  have hb' : ¬ (n < 1 ∨ 64 < n ∨ r < 1 ∨ 16777216 < r ∨ g = 0) := hb
  obtain ⟨N, rfl⟩ : ∃ N : Nat, n = N := ⟨n.toNat, by omega⟩
  obtain ⟨R, rfl⟩ : ∃ R : Nat, r = R := ⟨r.toNat, by omega⟩
  obtain ⟨G, rfl⟩ : ∃ G : Nat, g = G := ⟨g.toNat, by omega⟩
  exact plays_core N R G a len cap dos ns o w (by omega) (by omega) (by omega) (by omega) (by omega) (by omega) (by omega) hu
end Go.Proofs.Ytjhgckaaaonbiaa
