/- The walk of FdsPlays: it returns true for every input. -/
import Derived.Test.YthahmcipkchdjaaFw
import Derived.Test.YthahmcipkchdjaaGf
import Derived.Test.YthahmcipkchdjaaFy
import Derived.Deep.Cut
import Derived.Deep.CutRange
import Derived.Deep.RegionHeld3
namespace Go.Proofs.Ythahmcipkchdjaa
open Go.RowKit

/-- At the loop's head. -/
structure Hd (w0 w : World) (b k m c d : Nat) (F : Fb) (u v : Value) : Prop where
  ps : PS w0 w b k m c d F
  old : Old w0 w (PFoot b k m c d) u v
theorem Hd.it {w0 w w' : World} {b k m c d X C : Nat} {F : Fb} {u v : Value} {cX cC : Array Value} (h : Hd w0 w b k m c d F u v) (q : Below w.heap.size w w') (hX : Bk w' X 35 cX) (hC : Bk w' C 25 cC) : It w0 w' b k m c d F F u v X C cX cC :=
  ⟨h.ps.fs.quiet q, h.ps.dw.below q, h.ps.lc, h.ps.ld, h.old.below q, hX, hC⟩
theorem It.hd {w0 w : World} {b k m c d X C : Nat} {F : Fb} {u v : Value} {cX cC : Array Value} (h : It w0 w b k m c d F F u v X C cX cC) : Hd w0 w b k m c d F u v := ⟨h.ps, h.old⟩

section
variable {w0 w w' : World} {b k m c d X C : Nat} {F G : Fb} {u v : Value} {D N xx yy : Int} {zz p q r : Value} {cX cC : Array Value}
theorem It.cx (h : It w0 w b k m c d F G u v X C #[.int .i64 D, .int .i64 N, .int .i64 xx, .int .i64 yy, zz] cC) : w.cell? ⟨X, 0, none⟩ = some (.int .i64 D) ∧ w.cell? ⟨X, 1, none⟩ = some (.int .i64 N) := ⟨h.bX.cell 0, h.bX.cell 1⟩
theorem It.cc (h : It w0 w b k m c d F G u v X C cX #[p, q, r]) : w.cell? ⟨C, 0, none⟩ = some p ∧ w.cell? ⟨C, 1, none⟩ = some q ∧ w.cell? ⟨C, 2, none⟩ = some r ∧ (∀ i, w.frozen? ⟨C, i, none⟩ = false) := ⟨h.bC.cell 0, h.bC.cell 1, h.bC.cell 2, h.bC.frozen⟩
theorem Old.beside {S : Nat → Prop} {A : Nat} {cs : Array Value} (h : Old w0 w S u v) (hA : Bk w A 25 cs) (hl : w0.heap.size ≤ A) (q : Kept (· = A) w w') : Old w0 w' S u v := by
  rcases h with h | ⟨b, k, m, c, d, F, e1, e2, h1, h2⟩
  · exact .inl h
  · have hn := PS.box h1.fs.f h1.dw hA (by decide) (by decide) (by decide) (by decide)
    exact .inr ⟨b, k, m, c, d, F, e1, e2, ⟨⟨h1.fs.f.kept q fun g hg e => hn (by subst e; exact .inl hg), h1.fs.bel.trans (q.below h1.fs.bel.size fun g e => by rw [e]; exact hl), h1.fs.lo⟩, h1.dw.kept q (fun e => hn (by rw [← e]; exact .inr (.inl rfl))) (fun e => hn (by rw [← e]; exact .inr (.inr rfl))), h1.lc, h1.ld⟩, h2⟩
theorem It.store (h : It w0 w b k m c d F G u v X C cX cC) (hXC : X ≠ C) (hl : w0.heap.size ≤ C) (i : Nat) (z : Value) : It w0 (w.setCell ⟨C, i, none⟩ z) b k m c d F G u v X C cX (cC.setIfInBounds i z) := by
  have q : Kept (· = C) w (w.setCell ⟨C, i, none⟩ z) := (Kept.refl _ w).put1 i z
  have hn := PS.box h.fs.f h.dw h.bC (by decide) (by decide) (by decide) (by decide)
  exact ⟨⟨h.fs.f.kept q fun g hg e => hn (by subst e; exact .inl hg), h.fs.bel.trans (q.below h.fs.bel.size fun g e => by rw [e]; exact hl), h.fs.lo⟩, h.dw.kept q (fun e => hn (by rw [← e]; exact .inr (.inl rfl))) (fun e => hn (by rw [← e]; exact .inr (.inr rfl))), h.lc, h.ld, h.old.beside h.bC hl q, h.bX.kept q hXC, h.bC.put i z⟩
end

theorem idx_mod (N : Int) (q : Nat) (h0 : 0 < q) (h1 : q ≤ 64) : IntKind.u64.wrap (q:Int) = q ∧ ∃ i : Nat, i < q ∧ wrap64 ((IntKind.u64.wrap N).tmod q) = i := by
  have e : ∀ z, IntKind.u64.wrap z = z % 18446744073709551616 := fun z => rfl
  have hq : IntKind.u64.wrap (q:Int) = q := by rw [e]; omega
  refine ⟨hq, ((IntKind.u64.wrap N) % q).toNat, ?_, ?_⟩
  · have := Int.emod_lt_of_pos (IntKind.u64.wrap N) (show (0:Int) < q by omega)
    have := Int.emod_nonneg (IntKind.u64.wrap N) (show (q:Int) ≠ 0 by omega)
    omega
  · rw [Int.tmod_eq_emod_of_nonneg (by rw [e]; omega)]
    have h2 := Int.emod_lt_of_pos (IntKind.u64.wrap N) (show (0:Int) < q by omega)
    have h3 := Int.emod_nonneg (IntKind.u64.wrap N) (show (q:Int) ≠ 0 by omega)
    generalize IntKind.u64.wrap N % (q:Int) = z at *
    rw [Int.toNat_of_nonneg h3]
    unfold wrap64
    omega
theorem Fb.Ok.all_rg {F : Fb} (h : F.Ok) : ∀ a ∈ F.all, a.Rg := by
  rw [Fb.all_eq]
  intro a ha
  obtain ⟨i, hi, rfl⟩ := List.mem_map.1 ha
  have h1 := h.t.gm i
  have h2 := (mem_sel.1 hi).1
  have h3 := h.hi
  exact ⟨by simp, by simp, by simp, by simp; omega, by simp, by simp; omega⟩

set_option maxHeartbeats 8000000 in
set_option maxRecDepth 100000 in
theorem plays_core (n g : Nat) (a : Option Addr) (len cap : Nat) (dos ns : Nat → Int) (o : Nat → Ro) (x y z : Int) (w : World) (h1 : 1 ≤ n) (h2 : n ≤ 64) (h3 : 1 ≤ g) (h4 : g ≤ 4294967295) (hl : len ≤ 150) (hu : St9 w a len dos ns o) (hr : RgO x y z) :
    Calls Try.prog 3 #[.int .i64 n, .int .u32 g, .slice a len cap, .agg #[.int .i64 x, .int .i64 y, .int .u32 z]] w fun e w' => e = .returned (.bool true) ∧ Below w.heap.size w w' := by
  have hbel : Below w.heap.size w (w.alloc (.cells #[.int .i64 x, .int .i64 y, .int .u32 z] 25)) := (Below.refl _ w).alloc (Nat.le_refl _) _
  have HU := Lib.hid (hu.below hbel)
  have HA := Lib.hid (Bk.new w 25 #[.int .i64 x, .int .i64 y, .int .u32 z])
  have HR := Lib.hid hr
  have HB := Lib.hid hbel
  have HF : Hid (1 ≤ n ∧ n ≤ 64 ∧ 1 ≤ g ∧ g ≤ 4294967295) := ⟨h1, h2, h3, h4⟩
  have hx1 : decide ((150 : Int) < (len : Int)) = false := by simp; omega
  have HL := Lib.hid hl
  clear hbel hu hr h1 h2 h3 h4 hl
  go_enter Try.func3, Try.ntmps3
  go_upto_region 3 with fail
  generalize w.alloc (.cells #[.int .i64 x, .int .i64 y, .int .u32 z] 25) = wb at *
  go_wp2_with (first
    | (go_at_call 11; refine (fnew_ok n g _ HF.out.1 HF.out.2.1 HF.out.2.2.1 HF.out.2.2.2).mono ?_; rintro e w1 ⟨b, rfl, hF⟩; have H1 := Lib.hid hF; clear hF)
    | (go_at_call 12; refine (dnew_ok n g _ HF.out.1 HF.out.2.1 HF.out.2.2.1 HF.out.2.2.2).mono ?_; rintro e w2 ⟨c, rfl, hD⟩; have H2 := Lib.hid hD; clear hD))
  have H0 : Hid (∃ k m d F, Hd wb w2 b k m c d F (.pointer none) (.pointer none)) := by
    obtain ⟨k, m, h1⟩ := FSt.new H1.out
    obtain ⟨d, d1, d2, d3, d4⟩ := H2.out.out
    exact ⟨k, m, d, _, ⟨h1.quiet d4, d1, Nat.le_trans h1.bel.size d2, Nat.le_trans h1.bel.size d3⟩, .inl rfl⟩
  clear H1 H2 HF hx1
  go_loopw [9, 11, 13, 14, 55] (fun v9 v11 v13 v14 u wr => ∃ j b c : Nat, j ≤ len ∧ v9 = .pointer (some ⟨b, 0, none⟩) ∧ v11 = .pointer (some ⟨c, 0, none⟩) ∧ u = .int .i64 j ∧ Hid (∃ k m d F, Hd wb wr b k m c d F v13 v14)) (fun _ _ _ _ u _ => len - (intOf u).toNat)
  case atStart => exact ⟨0, b, c, Nat.zero_le _, rfl, rfl, rfl, H0.out⟩
  case round =>
    clear H0
    obtain ⟨j, b', c', hj, rfl, rfl, rfl, HS0⟩ := hrel
    obtain ⟨k, m, d, F, HS1⟩ := HS0.out
    have HS := Lib.hid HS1
    clear HS0 HS1
    have hbw : Hid (Below wb.heap.size wb wr) := HS.out.ps.fs.bel
    by_cases hlt : j < len
    · obtain ⟨B, off, rfl, hB, hcells⟩ := (HU.out.below hbw.out).at_ (by omega)
      obtain ⟨hc0, hc1, hc2, hc3, hc4⟩ := hcells j hlt
      obtain ⟨hN, hRg⟩ := HU.out.bd j hlt
      generalize o j = ro at *
      obtain ⟨xx, yy, zz⟩ := ro
      clear hcells
      simp only at hc2 hc3 hc4
      generalize dos j = D at *
      generalize ns j = N at *
      have HN := Lib.hid hN
      have HRg := Lib.hid hRg
      clear hN hRg
      go_upto_region 14 with fail
      rename_i K hK
      have hK' := fun a w (h : Hid (∀ K2 : Act → World → Prop, _ → _)) => hK a w (wp_seq_k h.out)
      clear hK
      go_wp2_with fail
      intro K2 hK2
      have hbX : Below wr.heap.size wr (wr.alloc (.cells #[.int .i64 D, .int .i64 N, .int .i64 xx, .int .i64 yy, .int .u32 zz] 35)) := (Below.refl _ wr).alloc (Nat.le_refl _) _
      have hX := Bk.new wr 35 #[.int .i64 D, .int .i64 N, .int .i64 xx, .int .i64 yy, .int .u32 zz]
      have hsz : (wr.alloc (.cells #[.int .i64 D, .int .i64 N, .int .i64 xx, .int .i64 yy, .int .u32 zz] 35)).heap.size = wr.heap.size + 1 := by simp
      clear hc0 hc1 hc2 hc3 hc4
      generalize wr.alloc (.cells #[.int .i64 D, .int .i64 N, .int .i64 xx, .int .i64 yy, .int .u32 zz] 35) = w3 at *
      have hbC : Below w3.heap.size w3 (w3.alloc (.cells #[.int .i64 xx, .int .i64 yy, .int .u32 zz] 25)) := (Below.refl _ w3).alloc (Nat.le_refl _) _
      have hC := Bk.new w3 25 #[.int .i64 xx, .int .i64 yy, .int .u32 zz]
      rw [hsz] at hC
      have HX : Hid (wr.heap.size ≠ wr.heap.size + 1 ∧ wb.heap.size ≤ wr.heap.size + 1) := ⟨by omega, by have := hbw.out.size; omega⟩
      have IT0 := Lib.hid (HS.out.it (bel2 hbX hbC) (hX.below hbC) hC)
      clear hX hC hbX hbC HS hB hbw hsz
      generalize wr.heap.size + 1 = C at *
      generalize wr.heap.size = X at *
      generalize w3.alloc (.cells #[.int .i64 xx, .int .i64 yy, .int .u32 zz] 25) = w4 at *
      go_cut [17] from 57 to 86 (fun v wx => v = .pointer (some ⟨C, 0, none⟩) ∧ ∃ p q r : Int, RgO p q r ∧ Hid (It wb wx b' k m c' d F F u13 u14 X C #[.int .i64 D, .int .i64 N, .int .i64 xx, .int .i64 yy, .int .u32 zz] #[.int .i64 p, .int .i64 q, .int .u32 r]))
      case first =>
        clear hK2
        have AL := Lib.hid (dall_ok c' d F w4 IT0.out.dw)
        have ALn : Hid (F.all.length ≤ 64) := Lib.hid (by rw [Fb.all_len]; exact IT0.out.dw.ok.held_len)
        have AR := Lib.hid IT0.out.dw.ok.all_rg
        go_upto_region 16 with (go_at_call 13; refine AL.out.mono ?_; rintro e w5 ⟨p, cp, rfl, h5, hb5⟩; have R5 := Lib.hid (RdO.of_own h5); have IT5 := Lib.hid (IT0.out.quiet hb5); clear h5 hb5)
        clear AL IT0
        obtain ⟨d0, d1⟩ := It.cx IT5.out
        generalize F.all = L at *
        obtain ⟨q, hq⟩ : ∃ q, L.length = q := ⟨_, rfl⟩
        rw [hq] at R5 ALn
        rw [hq]
        have HQ := Lib.hid hq
        clear hq
        rcases Nat.eq_zero_or_pos q with rfl | hq0
        · go_wp2_with fail
          go_meet
          exact ⟨rfl, xx, yy, zz, HRg.out, IT5.out⟩
        · have hq1 : decide ((0 : Int) < (q : Int)) = true := by simp; omega
          by_cases hD : D = 1 ∨ D = 2
          · obtain ⟨hw, i, hi, hx⟩ := idx_mod N q hq0 ALn.out
            have hil : i < L.length := by rw [HQ.out]; exact hi
            obtain ⟨g', off', rfl, hg', t0, t1, t2⟩ := R5.out.cell hil
            have hrg : (L[i]).Rg := AR.out _ (List.getElem_mem _)
            generalize L[i] = e at *
            obtain ⟨pp, qq, rr⟩ := e
            simp only at t0 t1 t2
            have hq2 : q ≠ 0 := by omega
            obtain ⟨c0, c1, c2, cf⟩ := It.cc IT5.out
            have HRG := Lib.hid hrg
            clear hrg AR R5 ALn hil hq0
            rcases hD with rfl | rfl
            · go_wp2_with fail
              go_meet
              exact ⟨rfl, pp, qq, rr, HRG.out, ((IT5.out.store HX.out.1 HX.out.2 0 (.int .i64 pp)).store HX.out.1 HX.out.2 1 (.int .i64 qq)).store HX.out.1 HX.out.2 2 (.int .u32 rr)⟩
            · go_wp2_with fail
              go_meet
              exact ⟨rfl, pp, qq, rr, HRG.out, ((IT5.out.store HX.out.1 HX.out.2 0 (.int .i64 pp)).store HX.out.1 HX.out.2 1 (.int .i64 qq)).store HX.out.1 HX.out.2 2 (.int .u32 rr)⟩
          · have e1 : (D == 1) = false := by simp; omega
            have e2 : (D == 2) = false := by simp; omega
            clear hD
            go_wp2_with fail
            go_meet
            exact ⟨rfl, xx, yy, zz, HRg.out, IT5.out⟩
      case rest =>
        obtain ⟨rfl, p, q, r, hpr, IT⟩ := hcut
        have HP := Lib.hid hpr
        clear hpr IT0 HRg
        go_upto_region 18 with fail
        rename_i K3 hK3
        have hK4 := fun a w (h : Hid (∀ K2 : Act → World → Prop, _ → _)) => hK3 a w (wp_seq_k h.out)
        clear hK3
        go_wp2_with fail
        intro K4 hK5
        go_cut [9, 11, 13, 14, 19] from 87 to 130 (fun v9 v11 v13 v14 v19 wx => ∃ b2 c2 : Nat, v9 = .pointer (some ⟨b2, 0, none⟩) ∧ v11 = .pointer (some ⟨c2, 0, none⟩) ∧ v19 = .bool true ∧ Hid (∃ k2 m2 d2 F2, It wb wx b2 k2 m2 c2 d2 F2 F2 v13 v14 X C #[.int .i64 D, .int .i64 N, .int .i64 xx, .int .i64 yy, .int .u32 zz] #[.int .i64 p, .int .i64 q, .int .u32 r]))
        case first =>
          clear hK5
          have CC : Hid (∀ W F' F'', It wb W b' k m c' d F' F'' u13 u14 X C #[.int .i64 D, .int .i64 N, .int .i64 xx, .int .i64 yy, .int .u32 zz] #[.int .i64 p, .int .i64 q, .int .u32 r] → W.cell? ⟨C, 0, none⟩ = some (.int .i64 p) ∧ W.cell? ⟨C, 1, none⟩ = some (.int .i64 q) ∧ W.cell? ⟨C, 2, none⟩ = some (.int .u32 r)) := fun W F' F'' h => ⟨h.cc.1, h.cc.2.1, h.cc.2.2.1⟩
          obtain ⟨d0, d1⟩ := It.cx IT.out
          by_cases hD0 : D = 0
          · subst hD0
            obtain ⟨K0, I0, N0, E0, F', OP1, OP2⟩ := it_open2 N HN.out F
            have HO1 := Lib.hid OP1
            have HO2 := Lib.hid OP2
            clear OP1 OP2 CC
            go_wp2_with (first
              | (go_at_call 14; refine (HO1.out _ _ _ _ _ _ _ _ _ _ _ _ _ IT.out).mono ?_; rintro e s1 ⟨rfl, J1⟩; have J2 := Lib.hid (J1.out.quiet ((Below.refl _ s1).alloc (Nat.le_refl _) (.cells #[.int .i64 K0, .int .i64 I0, .int .u32 N0] 25))); have B1 := Lib.hid (Bk.new s1 25 #[.int .i64 K0, .int .i64 I0, .int .u32 N0]); obtain ⟨f0, f1⟩ := It.cx J2.out; clear J1)
              | (go_at_call 15; refine (HO2.out _ _ _ _ _ _ _ _ _ _ _ _ _ J2.out).mono ?_; rintro e s2 ⟨rfl, J3, hD⟩; have J4 := Lib.hid (J3.out.quiet ((Below.refl _ s2).alloc (Nat.le_refl _) (.cells #[.int .i64 K0, .int .i64 I0, .int .u32 N0] 25))); have B2 := (hD.out _ _ B1.out).up (.cells #[.int .i64 K0, .int .i64 I0, .int .u32 N0] 25); have B3 := Bk.new s2 25 #[.int .i64 K0, .int .i64 I0, .int .u32 N0]; obtain ⟨k0, k1, k2⟩ := ob3 B2; obtain ⟨l0, l1, l2⟩ := ob3 B3; clear J3 hD B2 B3))
            go_meet
            exact ⟨b', c', rfl, rfl, rfl, k, m, d, F', J4.out⟩
          by_cases hD1 : D = 1
          · subst hD1
            clear hD0
            go_wp2_with fail
            have JD := Lib.hid (IT.out.quiet (bel_drew (Below.refl _ _)))
            have hz0 := CC.out _ _ _ JD.out
            clear IT
            go_region_held3 (fun W => W.cell? ⟨C, 0, none⟩ = some (.int .i64 p) ∧ W.cell? ⟨C, 1, none⟩ = some (.int .i64 q) ∧ W.cell? ⟨C, 2, none⟩ = some (.int .u32 r)) (first | (with_reducible exact hz0) | (with_reducible exact hz1) | (with_reducible exact hz2)) (first
              | (go_at_call 16; (with_reducible refine (it_close p q r HP.out JD.out).mono ?_); rintro e s1 ⟨rfl, hp⟩; have J1 := Lib.hid hp.out; have hz1 := CC.out _ _ _ J1.out; clear hp)
              | (go_at_call 17; (with_reducible refine (dit_close p q r HP.out J1.out).mono ?_); rintro e s2 ⟨rfl, hp⟩; have J2 := Lib.hid hp.out; have hz2 := CC.out _ _ _ J2.out; clear hp))
            go_wp2_with fail
            go_meet
            exact ⟨b', c', rfl, rfl, rfl, k, m, d, _, J2.out⟩
          by_cases hD3 : D = 3
          · subst hD3
            clear hD0 hD1
            go_wp2_with fail
            have JD := Lib.hid (IT.out.quiet (bel_drew (Below.refl _ _)))
            have hz0 := CC.out _ _ _ JD.out
            clear IT
            go_region_held3 (fun W => W.cell? ⟨C, 0, none⟩ = some (.int .i64 p) ∧ W.cell? ⟨C, 1, none⟩ = some (.int .i64 q) ∧ W.cell? ⟨C, 2, none⟩ = some (.int .u32 r)) (first | (with_reducible exact hz0) | (with_reducible exact hz1) | (with_reducible exact hz2)) (first
              | (go_at_call 16; (with_reducible refine (it_close p q r HP.out JD.out).mono ?_); rintro e s1 ⟨rfl, hp⟩; have J1 := Lib.hid hp.out; have hz1 := CC.out _ _ _ J1.out; clear hp)
              | (go_at_call 17; (with_reducible refine (dit_close p q r HP.out J1.out).mono ?_); rintro e s2 ⟨rfl, hp⟩; have J2 := Lib.hid hp.out; have hz2 := CC.out _ _ _ J2.out; clear hp))
            go_wp2_with fail
            go_meet
            exact ⟨b', c', rfl, rfl, rfl, k, m, d, _, J2.out⟩
          by_cases hD4 : D = 4
          · subst hD4
            clear hD0 hD1 hD3 CC
            go_wp2_with (first
              | (go_at_call 18; refine (it_copy IT.out).mono ?_; rintro e s1 ⟨b2, rfl, J1⟩)
              | (go_at_call 19; refine (cp_copy J1.out).mono ?_; rintro e s2 ⟨c2, rfl, J2⟩))
            go_meet
            exact ⟨b2, c2, rfl, rfl, rfl, by obtain ⟨k2, m2, d2, h⟩ := J2.out; exact ⟨k2, m2, d2, F, h⟩⟩
          · have e0 : (D == 0) = false := by simpa using hD0
            have e1 : (D == 1) = false := by simpa using hD1
            have e3 : (D == 3) = false := by simpa using hD3
            have e4 : (D == 4) = false := by simpa using hD4
            clear hD0 hD1 hD3 hD4 CC
            go_wp2_with fail
            go_meet
            exact ⟨b', c', rfl, rfl, rfl, k, m, d, F, IT.out⟩
        case rest =>
          obtain ⟨b2, c2, rfl, rfl, rfl, H2⟩ := hcut
          obtain ⟨k2, m2, d2, F2, h2⟩ := H2.out
          have HM := Lib.hid h2
          clear IT H2
          obtain ⟨a0, a1, a2⟩ := ob3 (HA.out.below HM.out.bel)
          obtain ⟨v0, v1, v2, _⟩ := It.cc HM.out
          have hj150 : (j : Int) ≤ 150 := by have := HL.out; omega
          rcases h2.old with e | ⟨b3, k3, m3, c3, d3, F3, e, e2, ho, hdis⟩
          · subst e
            clear h2
            go_wp2_with (first
              | (go_at_call 20; (with_reducible refine (shows_ok b2 k2 m2 c2 d2 F2 p q r HP.out wb _ HM.out.ps).mono ?_); rintro e s ⟨rfl, hb⟩; have HM := Lib.hid (HM.out.quiet hb); obtain ⟨a0, a1, a2⟩ := ob3 (HA.out.below HM.out.bel); clear hb)
              | (go_at_call 20; (with_reducible refine (shows_ok b2 k2 m2 c2 d2 F2 x y z HR.out wb _ HM.out.ps).mono ?_); rintro e s ⟨rfl, hb⟩; have HM := Lib.hid (HM.out.quiet hb); obtain ⟨a0, a1, a2⟩ := ob3 (HA.out.below HM.out.bel); clear hb))
            go_roundw
            case rel => exact ⟨j + 1, b2, c2, by omega, rfl, rfl, by go_num, k2, m2, d2, F2, HM.out.hd⟩
            case measure => simp [intOf]; omega
          · subst e e2
            have HO := Lib.hid ho
            clear h2 ho hdis
            go_wp2_with (first
              | (go_at_call 20; (with_reducible refine (shows_ok b2 k2 m2 c2 d2 F2 p q r HP.out wb _ HM.out.ps).mono ?_); rintro e s ⟨rfl, hb⟩; have HM := Lib.hid (HM.out.quiet hb); have HO := Lib.hid (HO.out.quiet hb); obtain ⟨a0, a1, a2⟩ := ob3 (HA.out.below HM.out.bel); clear hb)
              | (go_at_call 20; (with_reducible refine (shows_ok b2 k2 m2 c2 d2 F2 x y z HR.out wb _ HM.out.ps).mono ?_); rintro e s ⟨rfl, hb⟩; have HM := Lib.hid (HM.out.quiet hb); have HO := Lib.hid (HO.out.quiet hb); obtain ⟨a0, a1, a2⟩ := ob3 (HA.out.below HM.out.bel); clear hb)
              | (go_at_call 20; (with_reducible refine (shows_ok b3 k3 m3 c3 d3 F3 x y z HR.out wb _ HO.out).mono ?_); rintro e s ⟨rfl, hb⟩; have HM := Lib.hid (HM.out.quiet hb); clear hb))
            go_roundw
            case rel => exact ⟨j + 1, b2, c2, by omega, rfl, rfl, by go_num, k2, m2, d2, F2, HM.out.hd⟩
            case measure => simp [intOf]; omega
    · obtain rfl : j = len := by omega
      have HW := Lib.hid (works_ok wr)
      go_wp2_with (go_at_call 10; refine HW.out.mono ?_; rintro e s ⟨rfl, hb⟩; have HE := Lib.hid (bel2 (bel2 HB.out hbw.out) hb); clear hb)
      go_ret
      exact ⟨rfl, HE.out⟩
set_option maxHeartbeats 2000000 in
set_option maxRecDepth 100000 in
theorem plays_works (n g : Int) (a : Option Addr) (len cap : Nat) (x y z : Int) (w : World) (hl : 150 < len) :
    Calls Try.prog 3 #[.int .i64 n, .int .u32 g, .slice a len cap, .agg #[.int .i64 x, .int .i64 y, .int .u32 z]] w fun e w' => e = .returned (.bool true) ∧ Below w.heap.size w w' := by
  have hbel : Below w.heap.size w (w.alloc (.cells #[.int .i64 x, .int .i64 y, .int .u32 z] 25)) := (Below.refl _ w).alloc (Nat.le_refl _) _
  have HW := Lib.hid (works_ok (w.alloc (.cells #[.int .i64 x, .int .i64 y, .int .u32 z] 25)))
  have HB := Lib.hid hbel
  have hx1 : decide ((150 : Int) < (len : Int)) = true := by simp; omega
  clear hbel
  go_enter Try.func3, Try.ntmps3
  go_wp2_with (go_at_call 10; refine HW.out.mono ?_; rintro e s ⟨rfl, hb⟩; have HE := Lib.hid (bel2 HB.out hb); clear hb)
  go_ret
  exact ⟨rfl, HE.out⟩
set_option maxHeartbeats 2000000 in
set_option maxRecDepth 100000 in
theorem plays_bad (n g : Int) (a : Option Addr) (len cap : Nat) (x y z : Int) (w : World) (hn : I64 n) (hg : 0 ≤ g ∧ g ≤ 4294967295) (hl : len ≤ 150) (h : FBad n g) :
    Calls Try.prog 3 #[.int .i64 n, .int .u32 g, .slice a len cap, .agg #[.int .i64 x, .int .i64 y, .int .u32 z]] w fun e w' => e = .returned (.bool true) ∧ Below w.heap.size w w' := by
  have hbel : Below w.heap.size w (w.alloc (.cells #[.int .i64 x, .int .i64 y, .int .u32 z] 25)) := (Below.refl _ w).alloc (Nat.le_refl _) _
  have HW : Hid (∀ W, Calls Try.prog 10 #[] W fun e w' => e = .returned (.bool true) ∧ Below W.heap.size W w') := works_ok
  have HN := Lib.hid (fun W => fnew_bad n g W hn hg h)
  have HD := Lib.hid (fun W => dnew_bad n g W hn hg h)
  have HB := Lib.hid hbel
  have hx1 : decide ((150 : Int) < (len : Int)) = false := by simp; omega
  clear hbel hn hg h hl
  go_enter Try.func3, Try.ntmps3
  go_wp2_with (first
    | (go_at_call 11; refine (HN.out _).mono ?_; rintro e s ⟨rfl, rfl⟩)
    | (go_at_call 12; refine (HD.out _).mono ?_; rintro e s ⟨rfl, rfl⟩)
    | (go_at_call 10; refine (HW.out _).mono ?_; rintro e s ⟨rfl, hb⟩; have HE := Lib.hid (bel2 HB.out hb); clear hb))
  go_ret
  exact ⟨rfl, HE.out⟩
theorem fPla_walk (n g : Int) (a : Option Addr) (len cap : Nat) (dos ns : Nat → Int) (o : Nat → Ro) (x y z : Int) (w : World) (n0 : -9223372036854775808 ≤ n) (n1 : n ≤ 9223372036854775807) (g0 : 0 ≤ g) (g1 : g ≤ 4294967295) (_ : len ≤ cap) (_ : cap ≤ 9223372036854775807) (hu : St9 w a len dos ns o) (hr : RgO x y z) :
    Calls Try.prog 3 #[.int .i64 n, .int .u32 g, .slice a len cap, .agg #[.int .i64 x, .int .i64 y, .int .u32 z]] w fun e w' => e = .returned (.bool true) ∧ Below w.heap.size w w' := by
  by_cases hl : 150 < len
  · exact plays_works n g a len cap x y z w hl
  by_cases hb : FBad n g
  · exact plays_bad n g a len cap x y z w ⟨n0, n1⟩ ⟨g0, g1⟩ (by omega) hb
  have hb' : ¬ (n < 1 ∨ 64 < n ∨ g = 0) := hb
  obtain ⟨N, rfl⟩ : ∃ N : Nat, n = N := ⟨n.toNat, by omega⟩
  obtain ⟨G, rfl⟩ : ∃ G : Nat, g = G := ⟨g.toNat, by omega⟩
  exact plays_core N G a len cap dos ns o x y z w (by omega) (by omega) (by omega) (by omega) (by omega) hu hr
end Go.Proofs.Ythahmcipkchdjaa
