/- The walk of HeapPlays: it returns true for every input. -/
import Derived.Test.YtfnhkapbfgofkaaWdb
import Derived.Test.YtfnhkapbfgofkaaWw
import Derived.Test.YtfnhkapbfgofkaaWy
import Derived.Deep.Cut
import Derived.Deep.CutRange
import Derived.Lib.AppendZeros
namespace Go.Proofs.Ytfnhkapbfgofkaa
open Go.RowKit

set_option maxHeartbeats 2000000 in
set_option maxRecDepth 100000 in
theorem plays_works (n g : Int) (a : Option Addr) (len cap : Nat) (w : World) (hl : 120 < len) :
    Calls Try.prog 3 #[.int .i64 n, .int .u32 g, .slice a len cap] w fun e w' => e = .returned (.bool true) ∧ Below w.heap.size w w' := by
  have h : (120 : Int) < len := by omega
  clear hl
  go_enter Try.func3, Try.ntmps3
  go_wp2_with (go_at_call 11; refine (works_ok _).mono ?_; rintro e w' ⟨rfl, hb⟩; have HB := Lib.hid hb; clear hb)
  go_ret
  exact ⟨rfl, HB.out⟩
set_option maxHeartbeats 2000000 in
set_option maxRecDepth 100000 in
theorem plays_bad (n g : Int) (a : Option Addr) (len cap : Nat) (w : World) (hg : 0 ≤ g) (hl : len ≤ 120) (h : n < 1 ∨ 256 < n ∨ g < 1) :
    Calls Try.prog 3 #[.int .i64 n, .int .u32 g, .slice a len cap] w fun e w' => e = .returned (.bool true) ∧ Below w.heap.size w w' := by
  have HN := Lib.hid (fun W => hnew_bad n g W hg h)
  have HD := Lib.hid (fun W => dh_new_bad n g W hg h)
  have hl2 : (len : Int) ≤ 120 := by omega
  clear hg h hl
  go_enter Try.func3, Try.ntmps3
  go_wp2_with (first
    | (go_at_call 12; refine (HN.out _).mono ?_; rintro e s ⟨rfl, rfl⟩)
    | (go_at_call 13; refine (HD.out _).mono ?_; rintro e s ⟨rfl, rfl⟩))
  go_loopw [12, 14] (fun v u wr => v = .pointer none ∧ u = .int .i64 0 ∧ w = wr) (fun _ _ _ => 0)
  case atStart => exact ⟨rfl, rfl, rfl⟩
  case round =>
    obtain ⟨rfl, rfl, rfl⟩ := hrel
    by_cases h0 : (0 : Int) < len
    · go_wp2_with (go_at_call 11; refine (works_ok _).mono ?_; rintro e w' ⟨rfl, hb⟩; have HB := Lib.hid hb; clear hb)
      go_ret
      exact ⟨rfl, HB.out⟩
    · go_wp2_with (go_at_call 11; refine (works_ok _).mono ?_; rintro e w' ⟨rfl, hb⟩; have HB := Lib.hid hb; clear hb)
      go_ret
      exact ⟨rfl, HB.out⟩
/-- A name is stored into its box. -/
theorem box_set {w0 w : World} {b p t c A : Nat} {F G : Hp} {u v : Value} {pa : Option Addr} {q cg : Nat} {L : List Rf} {k0 : Rf} (h : Im w0 w b p t c F G u v pa q cg L) (hA : Bk w A 34 (rfc k0)) (hl : w0.heap.size ≤ A) (hg : ∀ g, (Value.slice pa q cg).ownBlock = some g → g ≠ A) (k : Rf) :
    Im w0 ((w.setCell ⟨A, 0, none⟩ (.int .i64 k.1)).setCell ⟨A, 1, none⟩ (.int .u32 k.2)) b p t c F G u v pa q cg L ∧ Bk ((w.setCell ⟨A, 0, none⟩ (.int .i64 k.1)).setCell ⟨A, 1, none⟩ (.int .u32 k.2)) A 34 (rfc k) ∧ ∀ B e cs, B ≠ A → Bk w B e cs → Bk ((w.setCell ⟨A, 0, none⟩ (.int .i64 k.1)).setCell ⟨A, 1, none⟩ (.int .u32 k.2)) B e cs := by
  have h1 := h.store (i := 0) (z := .int .i64 k.1) hA (.inl rfl) hl hg
  have h2 := h1.store (i := 1) (z := .int .u32 k.2) (hA.put 0 (.int .i64 k.1)) (.inl rfl) hl hg
  exact ⟨h2, (hA.put 0 (.int .i64 k.1)).put 1 (.int .u32 k.2), fun B e cs hne hB => (hB.other hne).other hne⟩
/-- The place in what was given. -/
theorem give_at (kn q : Nat) (h0 : 0 < q) : ∃ i : Nat, i < q ∧ (kn : Int).tmod (q : Int) = i := ⟨kn % q, Nat.mod_lt _ h0, by rw [Int.tmod_eq_emod_of_nonneg (by omega)]; simp⟩
set_option maxHeartbeats 16000000 in
set_option maxRecDepth 1000000 in
theorem plays_core (n g : Nat) (a : Option Addr) (len cap : Nat) (s : Nat → Stp) (w : World) (h1 : 1 ≤ n) (h2 : n ≤ 256) (h3 : 1 ≤ g) (h4 : g ≤ 4294967295) (hl : len ≤ 120) (hu : Stps w a len s) :
    Calls Try.prog 3 #[.int .i64 n, .int .u32 g, .slice a len cap] w fun e w' => e = .returned (.bool true) ∧ Below w.heap.size w w' := by
  have HU := Lib.hid hu
  have NW := Lib.hid (hnew_ok n g w h1 h2 h3 h4)
  have ND : Hid (∀ W, _) := Lib.hid (fun W => dh_new n g W h1 h2 h3 h4)
  have hl2 : (len : Int) ≤ 120 := by omega
  clear hu h1 h2 h3 h4
  go_enter Try.func3, Try.ntmps3
  go_wp2_with (first
    | (go_at_call 12; refine NW.out.mono ?_; rintro e w1 ⟨b, rfl, hF⟩; have H1 := Lib.hid hF; clear hF)
    | (go_at_call 13; refine (ND.out w1).mono ?_; rintro e w2 ⟨c, rfl, hD⟩; have H2 := Lib.hid hD; clear hD))
  have H0 : Hid (∃ p t F, Im w w2 b p t c F F (.pointer none) (.pointer none) none 0 0 []) := by
    obtain ⟨p, t, h1⟩ := HSt.new H1.out.out
    obtain ⟨d, d1, d2, d3, d4⟩ := H2.out.out
    exact ⟨p, t, _, h1.quiet d4, ⟨d, d1, Nat.le_trans h1.bel.size d3⟩, Nat.le_trans h1.bel.size d2, .inl rfl, rfl, World.ownsRow_nil _ _ _ _, fun r hr => by simp at hr⟩
  clear H1 H2 NW ND
  go_loopw [7, 9, 11, 12, 13, 14] (fun v7 v9 v11 v12 v13 u wr => ∃ (j b c q cg : Nat) (pa : Option Addr), j ≤ len ∧ q ≤ j ∧ v7 = .pointer (some ⟨b, 0, none⟩) ∧ v9 = .pointer (some ⟨c, 0, none⟩) ∧ v11 = .slice pa q cg ∧ u = .int .i64 j ∧ Hid (∃ p t F L, Im w wr b p t c F F v12 v13 pa q cg L)) (fun _ _ _ _ _ u _ => len - (intOf u).toNat)
  case atStart => exact ⟨0, b, c, 0, 0, none, Nat.zero_le _, Nat.le_refl _, rfl, rfl, rfl, rfl, by obtain ⟨p, t, F, h⟩ := H0.out; exact ⟨p, t, F, [], h⟩⟩
  case round =>
    clear H0
    obtain ⟨j, b', c', q, cg, pa, hj, hqj, rfl, rfl, rfl, rfl, HS0⟩ := hrel
    obtain ⟨p', t', F, L, HS1⟩ := HS0.out
    have HS := Lib.hid HS1
    clear HS0 HS1
    by_cases hlt : j < len
    · obtain ⟨B, off, rfl, hB, hcells⟩ := (HU.out.below HS.out.bel).at_ (by omega)
      have hok := HU.out.bd j hlt
      have s0 : wr.cell? ⟨B, off + j * 9, none⟩ = some (.int .i64 (s j).d) := hcells j hlt 0 _ rfl
      have s1 : wr.cell? ⟨B, off + j * 9 + 1, none⟩ = some (.int .i64 (s j).i) := hcells j hlt 1 _ rfl
      have s2 : wr.cell? ⟨B, off + j * 9 + 2, none⟩ = some (.bool (s j).h) := hcells j hlt 2 _ rfl
      have s3 : wr.cell? ⟨B, off + j * 9 + 3, none⟩ = some (.int .u8 (s j).kn) := hcells j hlt 3 _ rfl
      have s4 : wr.cell? ⟨B, off + j * 9 + 4, none⟩ = some (.int .u8 (s j).vl) := hcells j hlt 4 _ rfl
      have s5 : wr.cell? ⟨B, off + j * 9 + 5, none⟩ = some (.int .i64 (s j).r.1) := hcells j hlt 5 _ rfl
      have s6 : wr.cell? ⟨B, off + j * 9 + 6, none⟩ = some (.int .u32 (s j).r.2) := hcells j hlt 6 _ rfl
      have s7 : wr.cell? ⟨B, off + j * 9 + 7, none⟩ = some (.int .i64 (s j).v.1) := hcells j hlt 7 _ rfl
      have s8 : wr.cell? ⟨B, off + j * 9 + 8, none⟩ = some (.int .u32 (s j).v.2) := hcells j hlt 8 _ rfl
      generalize s j = sj at *
      obtain ⟨D, I, hd, kn, vl, ⟨xx, yy⟩, ⟨v1, v2⟩⟩ := sj
      simp only at s0 s1 s2 s3 s4 s5 s6 s7 s8
      have hkn : (kn : Int) ≤ 255 := by have := hok.kn; simp only at this; omega
      have hvl : (vl : Int) ≤ 255 := by have := hok.vl; simp only at this; omega
      have OK := Lib.hid hok
      have hj150 : (j : Int) ≤ 119 := by omega
      have hq150 : q ≤ 119 := by omega
      clear hcells hok hB
      go_upto_region 14 with fail
      obtain ⟨w3, hw3⟩ : ∃ w3, wr.alloc (.cells #[.int .i64 D, .int .i64 I, .bool hd, .int .u8 kn, .int .u8 vl, .int .i64 xx, .int .u32 yy, .int .i64 v1, .int .u32 v2] 36) = w3 := ⟨_, rfl⟩
      have I3 : Hid (Im w w3 b' p' t' c' F F u12 u13 pa q cg L) := by rw [← hw3]; exact HS.out.quiet (bel_new _ _)
      have X3 : Hid (Bk w3 wr.heap.size 36 #[.int .i64 D, .int .i64 I, .bool hd, .int .u8 kn, .int .u8 vl, .int .i64 xx, .int .u32 yy, .int .i64 v1, .int .u32 v2]) := by rw [← hw3]; exact Bk.new _ _ _
      have HG : Hid (∀ g, (Value.slice pa q cg).ownBlock = some g → g < wr.heap.size) := HS.out.own_lt
      have HX : Hid (w.heap.size ≤ wr.heap.size) := HS.out.bel.size
      rw [hw3]
      clear hw3 s0 s1 s2 s3 s4 s5 s6 s7 s8 HS
      generalize wr.heap.size = X at *
      have k3 : w3.cell? ⟨X, 3, none⟩ = some (.int .u8 kn) := X3.out.cell 3
      obtain ⟨B1, hB1⟩ : ∃ B1 : Bool, B1 = (decide (0 < kn) && decide (0 < q)) := ⟨_, rfl⟩
      have HB1 := Lib.hid hB1
      clear hB1
      go_cut [67] from 60 to 67 (fun v67 wx => v67 = .bool B1 ∧ w3 = wx)
      case first =>
        by_cases hk0 : kn = 0
        · subst hk0
          go_wp2_with fail
          go_meet
          exact ⟨by rw [HB1.out]; rfl, rfl⟩
        · have hk1 : (0 : Int) < (kn : Int) := by omega
          by_cases hq0 : q = 0
          · subst hq0
            go_wp2_with fail
            go_meet
            exact ⟨by rw [HB1.out]; simp, rfl⟩
          · have hq1 : (0 : Int) < (q : Int) := by omega
            go_wp2_with fail
            go_meet
            exact ⟨by rw [HB1.out]; simp; omega, rfl⟩
      case rest =>
        obtain ⟨rfl, rfl⟩ := hcut
        go_upto_if 67 with fail
        go_cut [66] from 68 to 77 (fun _ wx => ∃ x y : Int, Hid (Im w wx b' p' t' c' F F u12 u13 pa q cg L ∧ Bk wx X 36 #[.int .i64 D, .int .i64 I, .bool hd, .int .u8 kn, .int .u8 vl, .int .i64 x, .int .u32 y, .int .i64 v1, .int .u32 v2]))
        case first =>
          cases B1 with
          | false =>
            go_wp2_with fail
            go_meet
            exact ⟨xx, yy, I3.out, X3.out⟩
          | true =>
            have hb := HB1.out
            simp at hb
            obtain ⟨hk0, hq0⟩ := hb
            obtain ⟨i, hi, hI⟩ := give_at kn q hq0
            obtain ⟨g', r', rfl, hc1, hc2, _, _, t0, t1⟩ := I3.out.given hi
            obtain ⟨r1, r2⟩ := r'
            simp only at t0 t1
            have hwk : IntKind.i64.wrap (kn : Int) = (kn : Int) := by rw [IntKind.wrap_i64]; omega
            have NI : ¬ (q : Int) = 0 := by omega
            have NB : ((q : Int) == 0) = false := by simpa using NI
            have m5 : w3.cell? ⟨X, 5, none⟩ = some (.int .i64 xx) := X3.out.cell 5
            have m6 : w3.cell? ⟨X, 6, none⟩ = some (.int .u32 yy) := X3.out.cell 6
            have f5 := X3.out.frozen 5
            have f6 := X3.out.frozen 6
            have hlX := X3.out.lt
            have HC : Hid (∀ g, (Value.slice (some ⟨g', 0, none⟩) q cg).ownBlock = some g → g ≠ X) := fun g hg => by have := HG.out g hg; omega
            go_wp2_with fail
            go_meet
            exact ⟨r1, r2, (I3.out.store X3.out (.inr rfl) HX.out HC.out).store (X3.out.put 5 _) (.inr rfl) HX.out HC.out, (X3.out.put 5 _).put 6 _⟩
        case rest =>
          obtain ⟨x, y, HX1⟩ := hcut
          clear I3 X3 k3
          obtain ⟨w5, hw5⟩ : ∃ w5, w5 = wc := ⟨_, rfl⟩
          subst hw5
          have k4 : w5.cell? ⟨X, 4, none⟩ = some (.int .u8 vl) := HX1.out.2.cell 4
          obtain ⟨B2, hB2⟩ : ∃ B2 : Bool, B2 = (decide (0 < vl) && decide (0 < q)) := ⟨_, rfl⟩
          have HB2 := Lib.hid hB2
          clear hB2
          go_upto_region 16 with fail
          go_cut [85] from 78 to 85 (fun v85 wx => v85 = .bool B2 ∧ w5 = wx)
          case first =>
            by_cases hk0 : vl = 0
            · subst hk0
              go_wp2_with fail
              go_meet
              exact ⟨by rw [HB2.out]; rfl, rfl⟩
            · have hk1 : (0 : Int) < (vl : Int) := by omega
              by_cases hq0 : q = 0
              · subst hq0
                go_wp2_with fail
                go_meet
                exact ⟨by rw [HB2.out]; simp, rfl⟩
              · have hq1 : (0 : Int) < (q : Int) := by omega
                go_wp2_with fail
                go_meet
                exact ⟨by rw [HB2.out]; simp; omega, rfl⟩
          case rest =>
            obtain ⟨rfl, rfl⟩ := hcut
            go_upto_if 85 with fail
            go_cut [84] from 86 to 95 (fun _ wx => ∃ vs vg : Int, Hid (Rr (vs, vg) ∧ Im w wx b' p' t' c' F F u12 u13 pa q cg L ∧ Bk wx X 36 #[.int .i64 D, .int .i64 I, .bool hd, .int .u8 kn, .int .u8 vl, .int .i64 x, .int .u32 y, .int .i64 vs, .int .u32 vg]))
            case first =>
              cases B2 with
              | false =>
                go_wp2_with fail
                go_meet
                exact ⟨v1, v2, OK.out.v, HX1.out.1, HX1.out.2⟩
              | true =>
                have hb := HB2.out
                simp at hb
                obtain ⟨hk0, hq0⟩ := hb
                obtain ⟨i, hi, hI⟩ := give_at vl q hq0
                obtain ⟨g', r', rfl, hc1, hc2, _, hrr, t0, t1⟩ := HX1.out.1.given hi
                obtain ⟨r1, r2⟩ := r'
                simp only at t0 t1
                have RR := Lib.hid hrr
                have hwk : IntKind.i64.wrap (vl : Int) = (vl : Int) := by rw [IntKind.wrap_i64]; omega
                have NI : ¬ (q : Int) = 0 := by omega
                have NB : ((q : Int) == 0) = false := by simpa using NI
                have m7 : w5.cell? ⟨X, 7, none⟩ = some (.int .i64 v1) := HX1.out.2.cell 7
                have m8 : w5.cell? ⟨X, 8, none⟩ = some (.int .u32 v2) := HX1.out.2.cell 8
                have f7 := HX1.out.2.frozen 7
                have f8 := HX1.out.2.frozen 8
                have hlX := HX1.out.2.lt
                have HC : Hid (∀ g, (Value.slice (some ⟨g', 0, none⟩) q cg).ownBlock = some g → g ≠ X) := fun g hg => by have := HG.out g hg; omega
                clear hrr
                go_wp2_with fail
                go_meet
                exact ⟨r1, r2, RR.out, (HX1.out.1.store HX1.out.2 (.inr rfl) HX.out HC.out).store (HX1.out.2.put 7 _) (.inr rfl) HX.out HC.out, (HX1.out.2.put 7 _).put 8 _⟩
            case rest =>
              obtain ⟨vs, vg, HX2⟩ := hcut
              clear HX1 k4
              obtain ⟨w6, hw6⟩ : ∃ w6, w6 = wc := ⟨_, rfl⟩
              subst hw6
              go_upto_region 20 with fail
              rename_i K3 hK3
              have hK4 : ∀ a w, Hid _ → K3 a w := fun a w h => hK3 a w h.out
              clear hK3
              obtain ⟨w7, hw7⟩ : ∃ w7, (w6.alloc (.cells #[.int .i64 0, .int .u32 0] 34)).alloc (.cells #[.int .i64 0, .int .u32 0] 34) = w7 := ⟨_, rfl⟩
              obtain ⟨m1, m2, m3, m4⟩ := two_boxes w6 _ _ _ _ hw7
              have I7 : Hid (Im w w7 b' p' t' c' F F u12 u13 pa q cg L) := HX2.out.2.1.quiet m4
              have X7 : Hid (Bk w7 X 36 #[.int .i64 D, .int .i64 I, .bool hd, .int .u8 kn, .int .u8 vl, .int .i64 x, .int .u32 y, .int .i64 vs, .int .u32 vg]) := HX2.out.2.2.below m4
              have B16 : Hid (Bk w7 w6.heap.size 34 (rfc (0, 0))) := m1
              have B17 : Hid (Bk w7 (w6.heap.size + 1) 34 (rfc (0, 0))) := m2
              have RV : Hid (Rr (vs, vg)) := HX2.out.1
              have HA : Hid (X < w6.heap.size ∧ w6.heap.size < w6.heap.size + 1 ∧ w.heap.size ≤ w6.heap.size) := ⟨HX2.out.2.2.lt, by omega, HX2.out.2.1.bel.size⟩
              rw [hw7]
              clear hw7 m1 m2 m3 m4 HX2
              generalize w6.heap.size + 1 = A17 at *
              generalize w6.heap.size = A16 at *
              have k0 : w7.cell? ⟨X, 0, none⟩ = some (.int .i64 D) := X7.out.cell 0
              go_wp2_with fail
              unfold Hid
              clear k0
              have CX : Hid (∀ W, Bk W X 36 #[.int .i64 D, .int .i64 I, .bool hd, .int .u8 kn, .int .u8 vl, .int .i64 x, .int .u32 y, .int .i64 vs, .int .u32 vg] → W.cell? ⟨X, 1, none⟩ = some (.int .i64 I) ∧ W.cell? ⟨X, 2, none⟩ = some (.bool hd) ∧ W.cell? ⟨X, 5, none⟩ = some (.int .i64 x) ∧ W.cell? ⟨X, 6, none⟩ = some (.int .u32 y) ∧ W.cell? ⟨X, 7, none⟩ = some (.int .i64 vs) ∧ W.cell? ⟨X, 8, none⟩ = some (.int .u32 vg)) := fun W h => ⟨h.cell 1, h.cell 2, h.cell 5, h.cell 6, h.cell 7, h.cell 8⟩
              have G16 : Hid (∀ g, (Value.slice pa q cg).ownBlock = some g → g ≠ A16) := fun g hg => by have := HG.out g hg; have := HA.out; omega
              have G17 : Hid (∀ g, (Value.slice pa q cg).ownBlock = some g → g ≠ A17) := fun g hg => by have := HG.out g hg; have := HA.out; omega
              have GX : Hid (∀ g, (Value.slice pa q cg).ownBlock = some g → g ≠ X) := fun g hg => by have := HG.out g hg; omega
              go_cut [7, 9, 11, 12, 13, 18, 19] from 98 to 185 (fun v7 v9 v11 v12 v13 v18 v19 wx => ∃ (b2 c2 q2 cg2 : Nat) (p2 : Option Addr) (E : Int) (k : Rf), q2 ≤ j + 1 ∧ v7 = .pointer (some ⟨b2, 0, none⟩) ∧ v9 = .pointer (some ⟨c2, 0, none⟩) ∧ v11 = .slice p2 q2 cg2 ∧ v18 = .int .i64 E ∧ v19 = .int .i64 E ∧ Hid (∃ pp tt F2 L2, Im w wx b2 pp tt c2 F2 F2 v12 v13 p2 q2 cg2 L2 ∧ Bk wx X 36 #[.int .i64 D, .int .i64 I, .bool hd, .int .u8 kn, .int .u8 vl, .int .i64 x, .int .u32 y, .int .i64 vs, .int .u32 vg] ∧ Bk wx A16 34 (rfc k) ∧ Bk wx A17 34 (rfc k)))
              case first =>
                by_cases hD0 : D = 0
                · subst hD0
                  obtain ⟨k, E, F', hkk, OP1, OP2⟩ := im_make I hd OK.out.i F I7.out.st.f.ok
                  have HO1 := Lib.hid OP1
                  have HO2 := Lib.hid OP2
                  obtain ⟨d1, d2, d5, d6, d7, d8⟩ := CX.out _ X7.out
                  clear OP1 OP2
                  go_upto_region 23 with (go_at_call 14; (with_reducible refine (HO1.out _ _ _ _ _ _ _ _ _ _ _ _ I7.out).mono ?_); rintro e s1 ⟨rfl, j1, q1⟩; have J1 := Lib.hid j1; have Y1 := Lib.hid (q1 _ _ _ (.inr rfl) X7.out); have P16 := Lib.hid (q1 _ _ _ (.inl rfl) B16.out); have P17 := Lib.hid (q1 _ _ _ (.inl rfl) B17.out); obtain ⟨a0, a1⟩ := P16.out.rf; obtain ⟨z0, z1⟩ := P16.out.rfz; have hl16 := P16.out.lt; clear j1 q1 d1 d2 d5 d6 d7 d8)
                  obtain ⟨s2, hs2⟩ : ∃ s2, (s1.setCell ⟨A16, 0, none⟩ (.int .i64 k.1)).setCell ⟨A16, 1, none⟩ (.int .u32 k.2) = s2 := ⟨_, rfl⟩
                  obtain ⟨j2, n16, oth⟩ := box_set J1.out P16.out HA.out.2.2 G16.out k
                  rw [hs2] at j2 n16 oth
                  have J2 := Lib.hid j2
                  have N16 := Lib.hid n16
                  have Y2 := Lib.hid (oth X _ _ (by have := HA.out; omega) Y1.out)
                  have N17 := Lib.hid (oth A17 _ _ (by have := HA.out; omega) P17.out)
                  rw [hs2]
                  clear hs2 j2 n16 oth a0 a1 z0 z1 hl16
                  obtain ⟨d1, d2, d5, d6, d7, d8⟩ := CX.out _ Y2.out
                  go_upto_region 24 with (go_at_call 15; (with_reducible refine (HO2.out _ _ _ _ _ _ _ _ _ _ _ _ J2.out).mono ?_); rintro e s3 ⟨rfl, j3, q3⟩; have J3 := Lib.hid j3; have Y3 := Lib.hid (q3 _ _ _ (.inr rfl) Y2.out); have O16 := Lib.hid (q3 _ _ _ (.inl rfl) N16.out); have O17 := Lib.hid (q3 _ _ _ (.inl rfl) N17.out); obtain ⟨a0, a1⟩ := O17.out.rf; obtain ⟨z0, z1⟩ := O17.out.rfz; have hl17 := O17.out.lt; clear j3 q3 d1 d2 d5 d6 d7 d8)
                  obtain ⟨s4, hs4⟩ : ∃ s4, (s3.setCell ⟨A17, 0, none⟩ (.int .i64 k.1)).setCell ⟨A17, 1, none⟩ (.int .u32 k.2) = s4 := ⟨_, rfl⟩
                  obtain ⟨j4, n17, oth⟩ := box_set J3.out O17.out (by have := HA.out; omega) G17.out k
                  rw [hs4] at j4 n17 oth
                  have J4 := Lib.hid j4
                  have C17 := Lib.hid n17
                  have Y4 := Lib.hid (oth X _ _ (by have := HA.out; omega) Y3.out)
                  have C16 := Lib.hid (oth A16 _ _ (by have := HA.out; omega) O16.out)
                  try rw [hs4]
                  clear j4 n17 oth a0 a1 z0 z1 hl17
                  have KR := Lib.hid hkk
                  clear hkk
                  by_cases hE : E = 0
                  · subst hE
                    go_upto_region 25 with fail
                    obtain ⟨p6, cg6, s6, hrun, J6, K6⟩ := im_app k KR.out J4.out (by omega)
                    obtain ⟨l0, l1⟩ := C17.out.rf
                    go_wp2_with (at_builtin; refine Lib.wpList_append_run _ rfl _ _ _ _ rfl _ _ rfl rfl _ _ hrun ?_)
                    go_meet
                    exact ⟨b', c', q + 1, cg6, p6, 0, k, by omega, rfl, rfl, rfl, rfl, rfl, p', t', F', _, J6.out, (K6.out _ _ _ (.inr rfl) Y4.out GX.out).1, (K6.out _ _ _ (.inl rfl) C16.out G16.out).1, (K6.out _ _ _ (.inl rfl) C17.out G17.out).1⟩
                  · have hEb : (E == 0) = false := by simpa using hE
                    clear hE
                    go_wp2_with fail
                    go_meet
                    exact ⟨b', c', q, cg, pa, E, k, by omega, rfl, rfl, rfl, rfl, rfl, p', t', F', L, J4.out, Y4.out, C16.out, C17.out⟩
                by_cases hD1 : D = 1
                · subst hD1
                  obtain ⟨E, F', OP1, OP2⟩ := im_free x y F
                  have HO1 := Lib.hid OP1
                  have HO2 := Lib.hid OP2
                  obtain ⟨d1, d2, d5, d6, d7, d8⟩ := CX.out _ X7.out
                  clear OP1 OP2 hD0
                  go_wp2_with (first
                    | (go_at_call 16; (with_reducible refine (HO1.out _ _ _ _ _ _ _ _ _ _ _ _ I7.out).mono ?_); rintro e s1 ⟨rfl, j1, q1⟩; have J1 := Lib.hid j1; have Q1 := Lib.hid q1; have Y1 := Lib.hid (q1 _ _ _ (.inr rfl) X7.out); clear j1 q1 d1 d2 d5 d6 d7 d8; obtain ⟨d1, d2, d5, d6, d7, d8⟩ := CX.out _ Y1.out)
                    | (go_at_call 17; (with_reducible refine (HO2.out _ _ _ _ _ _ _ _ _ _ _ _ J1.out).mono ?_); rintro e s2 ⟨rfl, j2, q2⟩; have J2 := Lib.hid j2; have Q2 := Lib.hid q2; clear j2 q2))
                  go_meet
                  exact ⟨b', c', q, cg, pa, E, (0, 0), by omega, rfl, rfl, rfl, rfl, rfl, p', t', F', L, J2.out, Q2.out _ _ _ (.inr rfl) Y1.out, Q2.out _ _ _ (.inl rfl) (Q1.out _ _ _ (.inl rfl) B16.out), Q2.out _ _ _ (.inl rfl) (Q1.out _ _ _ (.inl rfl) B17.out)⟩
                by_cases hD2 : D = 2
                · subst hD2
                  obtain ⟨k, E, OP1, OP2⟩ := im_load x y I OK.out.i F
                  clear hD0 hD1
                  have HO1 := Lib.hid OP1
                  have HO2 := Lib.hid OP2
                  obtain ⟨d1, d2, d5, d6, d7, d8⟩ := CX.out _ X7.out
                  clear OP1 OP2
                  go_upto_region 31 with (go_at_call 18; (with_reducible refine (HO1.out _ _ _ _ _ _ _ _ _ _ _ _ I7.out).mono ?_); rintro e s1 ⟨rfl, j1, q1⟩; have J1 := Lib.hid j1; have Y1 := Lib.hid (q1 _ _ _ (.inr rfl) X7.out); have P16 := Lib.hid (q1 _ _ _ (.inl rfl) B16.out); have P17 := Lib.hid (q1 _ _ _ (.inl rfl) B17.out); obtain ⟨a0, a1⟩ := P16.out.rf; obtain ⟨z0, z1⟩ := P16.out.rfz; have hl16 := P16.out.lt; clear j1 q1 d1 d2 d5 d6 d7 d8)
                  obtain ⟨s2, hs2⟩ : ∃ s2, (s1.setCell ⟨A16, 0, none⟩ (.int .i64 k.1)).setCell ⟨A16, 1, none⟩ (.int .u32 k.2) = s2 := ⟨_, rfl⟩
                  obtain ⟨j2, n16, oth⟩ := box_set J1.out P16.out HA.out.2.2 G16.out k
                  rw [hs2] at j2 n16 oth
                  have J2 := Lib.hid j2
                  have N16 := Lib.hid n16
                  have Y2 := Lib.hid (oth X _ _ (by have := HA.out; omega) Y1.out)
                  have N17 := Lib.hid (oth A17 _ _ (by have := HA.out; omega) P17.out)
                  rw [hs2]
                  clear hs2 j2 n16 oth a0 a1 z0 z1 hl16
                  obtain ⟨d1, d2, d5, d6, d7, d8⟩ := CX.out _ Y2.out
                  go_wp2_with (go_at_call 19; (with_reducible refine (HO2.out _ _ _ _ _ _ _ _ _ _ _ _ J2.out).mono ?_); rintro e s3 ⟨rfl, j3, q3⟩; have J3 := Lib.hid j3; have Y3 := Lib.hid (q3 _ _ _ (.inr rfl) Y2.out); have O16 := Lib.hid (q3 _ _ _ (.inl rfl) N16.out); have O17 := Lib.hid (q3 _ _ _ (.inl rfl) N17.out); obtain ⟨a0, a1⟩ := O17.out.rf; obtain ⟨z0, z1⟩ := O17.out.rfz; have hl17 := O17.out.lt; clear j3 q3 d1 d2 d5 d6 d7 d8)
                  obtain ⟨s4, hs4⟩ : ∃ s4, (s3.setCell ⟨A17, 0, none⟩ (.int .i64 k.1)).setCell ⟨A17, 1, none⟩ (.int .u32 k.2) = s4 := ⟨_, rfl⟩
                  obtain ⟨j4, n17, oth⟩ := box_set J3.out O17.out (by have := HA.out; omega) G17.out k
                  rw [hs4] at j4 n17 oth
                  have J4 := Lib.hid j4
                  have C17 := Lib.hid n17
                  have Y4 := Lib.hid (oth X _ _ (by have := HA.out; omega) Y3.out)
                  have C16 := Lib.hid (oth A16 _ _ (by have := HA.out; omega) O16.out)
                  try rw [hs4]
                  clear j4 n17 oth a0 a1 z0 z1 hl17
                  go_meet
                  exact ⟨b', c', q, cg, pa, E, k, by omega, rfl, rfl, rfl, rfl, rfl, p', t', F, L, J4.out, Y4.out, C16.out, C17.out⟩
                by_cases hD3 : D = 3
                · subst hD3
                  obtain ⟨k, E, F', OP1, OP2⟩ := im_store x y I vs vg OK.out.i RV.out F
                  clear hD0 hD1 hD2
                  have HO1 := Lib.hid OP1
                  have HO2 := Lib.hid OP2
                  obtain ⟨d1, d2, d5, d6, d7, d8⟩ := CX.out _ X7.out
                  clear OP1 OP2
                  go_upto_region 34 with (go_at_call 20; (with_reducible refine (HO1.out _ _ _ _ _ _ _ _ _ _ _ _ I7.out).mono ?_); rintro e s1 ⟨rfl, j1, q1⟩; have J1 := Lib.hid j1; have Y1 := Lib.hid (q1 _ _ _ (.inr rfl) X7.out); have P16 := Lib.hid (q1 _ _ _ (.inl rfl) B16.out); have P17 := Lib.hid (q1 _ _ _ (.inl rfl) B17.out); obtain ⟨a0, a1⟩ := P16.out.rf; obtain ⟨z0, z1⟩ := P16.out.rfz; have hl16 := P16.out.lt; clear j1 q1 d1 d2 d5 d6 d7 d8)
                  obtain ⟨s2, hs2⟩ : ∃ s2, (s1.setCell ⟨A16, 0, none⟩ (.int .i64 k.1)).setCell ⟨A16, 1, none⟩ (.int .u32 k.2) = s2 := ⟨_, rfl⟩
                  obtain ⟨j2, n16, oth⟩ := box_set J1.out P16.out HA.out.2.2 G16.out k
                  rw [hs2] at j2 n16 oth
                  have J2 := Lib.hid j2
                  have N16 := Lib.hid n16
                  have Y2 := Lib.hid (oth X _ _ (by have := HA.out; omega) Y1.out)
                  have N17 := Lib.hid (oth A17 _ _ (by have := HA.out; omega) P17.out)
                  rw [hs2]
                  clear hs2 j2 n16 oth a0 a1 z0 z1 hl16
                  obtain ⟨d1, d2, d5, d6, d7, d8⟩ := CX.out _ Y2.out
                  go_wp2_with (go_at_call 21; (with_reducible refine (HO2.out _ _ _ _ _ _ _ _ _ _ _ _ J2.out).mono ?_); rintro e s3 ⟨rfl, j3, q3⟩; have J3 := Lib.hid j3; have Y3 := Lib.hid (q3 _ _ _ (.inr rfl) Y2.out); have O16 := Lib.hid (q3 _ _ _ (.inl rfl) N16.out); have O17 := Lib.hid (q3 _ _ _ (.inl rfl) N17.out); obtain ⟨a0, a1⟩ := O17.out.rf; obtain ⟨z0, z1⟩ := O17.out.rfz; have hl17 := O17.out.lt; clear j3 q3 d1 d2 d5 d6 d7 d8)
                  obtain ⟨s4, hs4⟩ : ∃ s4, (s3.setCell ⟨A17, 0, none⟩ (.int .i64 k.1)).setCell ⟨A17, 1, none⟩ (.int .u32 k.2) = s4 := ⟨_, rfl⟩
                  obtain ⟨j4, n17, oth⟩ := box_set J3.out O17.out (by have := HA.out; omega) G17.out k
                  rw [hs4] at j4 n17 oth
                  have J4 := Lib.hid j4
                  have C17 := Lib.hid n17
                  have Y4 := Lib.hid (oth X _ _ (by have := HA.out; omega) Y3.out)
                  have C16 := Lib.hid (oth A16 _ _ (by have := HA.out; omega) O16.out)
                  try rw [hs4]
                  clear j4 n17 oth a0 a1 z0 z1 hl17
                  go_meet
                  exact ⟨b', c', q, cg, pa, E, k, by omega, rfl, rfl, rfl, rfl, rfl, p', t', F', L, J4.out, Y4.out, C16.out, C17.out⟩
                by_cases hD4 : D = 4
                · subst hD4
                  clear hD0 hD1 hD2 hD3
                  go_wp2_with (first
                    | (go_at_call 22; refine (im_copy I7.out).mono ?_; rintro e s1 ⟨b2, rfl, J1, q1⟩; have Q1 := Lib.hid q1; clear q1)
                    | (go_at_call 23; refine (cp_copy J1.out).mono ?_; rintro e s2 ⟨c2, rfl, J2, q2⟩; have Q2 := Lib.hid q2; clear q2))
                  go_meet
                  exact ⟨b2, c2, q, cg, pa, 0, (0, 0), by omega, rfl, rfl, rfl, rfl, rfl, by
                    obtain ⟨p3, t3, h⟩ := J2.out
                    exact ⟨p3, t3, F, L, h, Q2.out _ _ _ (.inr rfl) (Q1.out _ _ _ (.inr rfl) X7.out), Q2.out _ _ _ (.inl rfl) (Q1.out _ _ _ (.inl rfl) B16.out), Q2.out _ _ _ (.inl rfl) (Q1.out _ _ _ (.inl rfl) B17.out)⟩⟩
                · have e0 : (D == 0) = false := by simpa using hD0
                  have e1 : (D == 1) = false := by simpa using hD1
                  have e2 : (D == 2) = false := by simpa using hD2
                  have e3 : (D == 3) = false := by simpa using hD3
                  have e4 : (D == 4) = false := by simpa using hD4
                  clear hD0 hD1 hD2 hD3 hD4
                  go_wp2_with fail
                  go_meet
                  exact ⟨b', c', q, cg, pa, 0, (0, 0), by omega, rfl, rfl, rfl, rfl, rfl, p', t', F, L, I7.out, X7.out, B16.out, B17.out⟩
              case rest =>
                obtain ⟨b2, c2, q2, cg2, p2, E, k, hq2, rfl, rfl, rfl, rfl, rfl, H2⟩ := hcut
                obtain ⟨pp, tt, F2, L2, h2, h3, h4, h5⟩ := H2.out
                have HM := Lib.hid h2
                have HB3 := Lib.hid h3
                have HB5 := Lib.hid h5
                obtain ⟨_, _, d5, d6, _, _⟩ := CX.out _ h3
                obtain ⟨e0, e1⟩ := h4.rf
                obtain ⟨f0, f1⟩ := h5.rf
                clear I7 X7 B16 B17 H2 h2 h3 h4 h5
                have hwj : IntKind.i64.wrap ((j : Int) + 1) = (j : Int) + 1 := by rw [IntKind.wrap_i64]; omega
                go_wp2_with (first
                  | (go_at_call 24; (with_reducible refine (im_shows k.1 k.2 HM1.out).mono ?_); rintro e s2 ⟨rfl, hm, _⟩; have HM2 := Lib.hid hm; clear hm)
                  | (go_at_call 24; (with_reducible refine (im_shows x y HM.out).mono ?_); rintro e s1 ⟨rfl, hm, hq⟩; have HM1 := Lib.hid hm; obtain ⟨g0, g1⟩ := (hq _ _ _ (.inl rfl) HB5.out).rf; clear hm hq))
                go_roundw
                case rel => exact ⟨j + 1, b2, c2, q2, cg2, p2, by omega, hq2, rfl, rfl, rfl, by go_num, pp, tt, F2, L2, HM2.out⟩
                case measure => simp [intOf]; omega
    · obtain rfl : j = len := by omega
      obtain ⟨d, hd1, hd2⟩ := HS.out.dw
      have HP : Hid (PS w wr b' p' t' c' d F) := ⟨HS.out.st, hd1, HS.out.lc, hd2⟩
      have HBW := Lib.hid HS.out.bel
      rcases HS.out.old with e | ⟨b3, p3, t3, c3, d3, F3, e, e2, ho, hdis⟩
      · subst e
        clear hd1 hd2
        go_wp2_with (first
          | (go_at_call 25; (with_reducible refine (whole_ok b' p' t' c' d F w _ HP.out).mono ?_); rintro e s ⟨rfl, hb⟩; have HM := Lib.hid (dh_tr HBW.out hb); clear hb)
          | (go_at_call 11; refine (works_ok _).mono ?_; rintro e w5 ⟨rfl, hb⟩; have HB5 := Lib.hid (dh_tr HM.out hb); clear hb))
        go_ret
        exact ⟨rfl, HB5.out⟩
      · subst e e2
        have HO := Lib.hid ho
        clear ho hdis hd1 hd2
        go_wp2_with (first
          | (go_at_call 25; (with_reducible refine (whole_ok b3 p3 t3 c3 d3 F3 w _ (HO.out.quiet HS1.out)).mono ?_); rintro e s2 ⟨rfl, hb⟩; have HM2 := Lib.hid (dh_tr HM.out hb); clear hb)
          | (go_at_call 25; (with_reducible refine (whole_ok b' p' t' c' d F w _ HP.out).mono ?_); rintro e s ⟨rfl, hb⟩; have HS1 := Lib.hid hb; have HM := Lib.hid (dh_tr HBW.out hb); clear hb)
          | (go_at_call 11; refine (works_ok _).mono ?_; rintro e w5 ⟨rfl, hb⟩; have HB5 := Lib.hid (dh_tr HM2.out hb); clear hb))
        go_ret
        exact ⟨rfl, HB5.out⟩
theorem wPla_walk (n g : Int) (a : Option Addr) (len cap : Nat) (s : Nat → Stp) (w : World) (n0 : -9223372036854775808 ≤ n) (n1 : n ≤ 9223372036854775807) (g0 : 0 ≤ g) (g1 : g ≤ 4294967295) (_ : len ≤ cap) (_ : cap ≤ 9223372036854775807) (hu : Stps w a len s) :
    Calls Try.prog 3 #[.int .i64 n, .int .u32 g, .slice a len cap] w fun e w' => e = .returned (.bool true) ∧ Below w.heap.size w w' := by
  by_cases hl : 120 < len
  · exact plays_works n g a len cap w hl
  by_cases hb : n < 1 ∨ 256 < n ∨ g < 1
  · exact plays_bad n g a len cap w g0 (by omega) hb
  obtain ⟨N, rfl⟩ : ∃ N : Nat, n = N := ⟨n.toNat, by omega⟩
  obtain ⟨G, rfl⟩ : ∃ G : Nat, g = G := ⟨g.toNat, by omega⟩
  exact plays_core N G a len cap s w (by omega) (by omega) (by omega) (by omega) (by omega) hu
end Go.Proofs.Ytfnhkapbfgofkaa
