/- The walk of FdsLowest: it returns true for every input. -/
import Derived.Test.YthahmcipkchdjaaFw
import Derived.Test.YthahmcipkchdjaaFy
import Derived.Test.YthahmcipkchdjaaGl
import Derived.Deep.Cut
import Derived.Deep.CutRange
namespace Go.Proofs.Ythahmcipkchdjaa
open Go.RowKit

theorem tmod_at (M q : Nat) (h : 0 < q) : ∃ i : Nat, i < q ∧ (M : Int).tmod (q : Int) = i := ⟨M % q, Nat.mod_lt _ h, by rw [Int.tmod_eq_emod_of_nonneg (by omega)]; simp⟩
theorem any_no {R : List (Nat × Nat)} {v : Nat} (h : (R.any fun r => decide (r.1 = v)) = false) : ∀ r ∈ R, r.1 ≠ v := by
  intro r hr e
  have := List.any_eq_false.1 h r hr
  simp [e] at this
theorem any_yes {R : List (Nat × Nat)} {v : Nat} (h : (R.any fun r => decide (r.1 = v)) = true) : ∃ r ∈ R, r.1 = v := by
  obtain ⟨r, hr, e⟩ := List.any_eq_true.1 h
  exact ⟨r, hr, by simpa using e⟩
theorem int_cell {w : World} {A : Nat} {z : Value} (h : Bk w A 3 #[z]) : w.cell? ⟨A, 0, none⟩ = some z ∧ w.frozen? ⟨A, 0, none⟩ = false := ⟨h.cell 0, h.frozen 0⟩
theorem move_cells {w : World} {X : Nat} {y z : Value} (h : Bk w X 52 #[y, z]) : w.cell? ⟨X, 0, none⟩ = some y ∧ w.cell? ⟨X, 1, none⟩ = some z := ⟨h.cell 0, h.cell 1⟩

set_option maxHeartbeats 8000000 in
set_option maxRecDepth 100000 in
theorem fLow_walk (x0 x1 : Int) (a : Option Addr) (len cap : Nat) (cl : Nat → Bool) (num : Nat → Nat) (w : World) (h00 : 0 ≤ x0) (h01 : x0 ≤ 255) (h10 : 0 ≤ x1) (h11 : x1 ≤ 4294967295) (hl : len ≤ cap) (hm : cap ≤ 9223372036854775807) (hu : Moves w a len cl num) :
    Calls Try.prog 4 #[.int .u8 x0, .int .u32 x1, .slice a len cap] w fun e w' => e = .returned (.bool true) ∧ Below w.heap.size w w' := by
  obtain ⟨s, rfl⟩ : ∃ s : Nat, x0 = s := ⟨x0.toNat, by omega⟩
  obtain ⟨f1, hf1⟩ : ∃ f1 : Nat, min x1 4294966295 = f1 := ⟨(min x1 4294966295).toNat, by omega⟩
  obtain ⟨f, hf⟩ : ∃ f : Nat, max f1 1 = f := ⟨_, rfl⟩
  have hfb : 1 ≤ f ∧ f ≤ 4294966295 := by omega
  have HF := Lib.hid hfb
  obtain ⟨n, hn⟩ : ∃ n, 1 + s % 64 = n := ⟨_, rfl⟩
  have hnb : 1 ≤ n ∧ n ≤ 64 := by omega
  have HNb := Lib.hid hnb
  have hn1 : (1 : Int) ≤ n := by omega
  have hn2 : (n : Int) ≤ 64 := by omega
  have BG : Hid (∀ W, Calls Try.prog 21 #[.int .u8 s, .int .u32 f1] W (BgP n f W)) := fun W => by
    have := begun_ok s f1 W (by omega) (by omega)
    rw [hn, hf] at this; exact this
  obtain ⟨T, hT⟩ : ∃ T : Nat, min (len : Int) 150 = T := ⟨(min (len : Int) 150).toNat, by omega⟩
  have hT1 : (T : Int) ≤ 150 := by omega
  have hT2 : T ≤ len := by omega
  have hT3 : T ≤ cap := by omega
  have HU := Lib.hid hu
  clear hu hn hf hfb hnb
  have hmm := @run_makeMap Try.prog
  go_enter Try.func4, Try.ntmps4
  go_upto_region 7 with (go_at_call 21; refine (BG.out _).mono ?_; rintro e w1 ⟨b, k, m, rfl, S0⟩)
  clear BG hmm
  have R0 := Lib.hid (And.intro (Lo.start S0.out (Lw.fresh HNb.out.1 HNb.out.2 HF.out.1 (by have := HF.out; omega))) (Lw.fresh HNb.out.1 HNb.out.2 HF.out.1 (by have := HF.out; omega)))
  clear S0
  generalize (w1.alloc (.map #[] 0)).alloc (.map #[] 0) = w2 at *
  generalize w1.heap.size + 1 = mE at *
  generalize w1.heap.size = mN at *
  go_cut [39, 40, 41] from 35 to 38 (fun v u z wx => v = .slice a T cap ∧ u = .int .i64 T ∧ z = .int .i64 0 ∧ wx = w2)
  case first =>
    go_wp2
    all_goals
      go_meet
      exact ⟨by first | rfl | (congr 1; omega), by first | rfl | (congr 1; omega), rfl, rfl⟩
  case rest =>
  obtain ⟨rfl, rfl, rfl, rfl⟩ := hcut
  clear hT
  go_wp2_with fail
  go_loopw [10, 41] (fun v u wr => ∃ (j q c : Nat) (p : Option Addr), j ≤ T ∧ v = .slice p q c ∧ u = .int .i64 j ∧ Hid (∃ F R N e, Lo w wr b k m F p q c R mN mE e e N N.ever ∧ Lw F n f j R N ∧ e ≤ j)) (fun _ u _ => T - (intOf u).toNat)
  case atStart => exact ⟨0, 0, 0, none, Nat.zero_le _, rfl, rfl, _, _, _, 0, R0.out.1, R0.out.2, Nat.le_refl _⟩
  case round =>
    clear R0
    obtain ⟨j, q, c, p, hj, rfl, rfl, HI⟩ := hrel
    obtain ⟨F, R, N, e, hL0, hW0, he0⟩ := HI.out
    have HL := Lib.hid hL0
    have HW := Lib.hid hW0
    have HE := Lib.hid he0
    have hq64 : (q : Int) ≤ 64 := by have := hW0.len; have := hL0.rl; omega
    clear HI hL0 hW0 he0
    by_cases hlt : j < T
    · obtain ⟨B, off, rfl, hB, hcells⟩ := (HU.out.below HL.out.s.bel).at_ (show 0 < len by omega)
      obtain ⟨hc0, hc1⟩ := hcells j (by omega)
      have hM := HU.out.bd j (by omega)
      have hj150 : (j : Int) ≤ 149 := by omega
      generalize cl j = C at *
      generalize num j = M at *
      have hM2 : (M : Int) ≤ 65535 := by omega
      clear hcells
      go_upto_region 9 with fail
      rename_i K hK
      have hK' := fun a w (h : Hid (∀ K2 : Act → World → Prop, _ → _)) => hK a w (wp_seq_k h.out)
      clear hK
      go_wp2_with fail
      intro K2 hK2
      have hbX : Below wr.heap.size wr (wr.alloc (.cells #[.bool C, .int .u16 M] 52)) := (Below.refl _ wr).alloc (Nat.le_refl _) _
      have BX := Lib.hid (Bk.new wr 52 #[.bool C, .int .u16 M])
      have L3 := Lib.hid (HL.out.quiet hbX)
      have HX : Hid (w.heap.size ≤ wr.heap.size) := HL.out.s.bel.size
      clear hc0 hc1 hbX HL hB
      generalize wr.alloc (.cells #[.bool C, .int .u16 M] 52) = w3 at *
      generalize wr.heap.size = X at *
      obtain ⟨x0, x1⟩ : w3.cell? ⟨X, 0, none⟩ = some (.bool C) ∧ w3.cell? ⟨X, 1, none⟩ = some (.int .u16 M) := ⟨BX.out.cell 0, BX.out.cell 1⟩
      go_cut [10] from 45 to 69 (fun v wx => v = .slice p q c ∧ wx = w3)
      case first =>
        clear hK2
        cases C with
        | false =>
          go_wp2_with fail
          go_meet
          exact ⟨rfl, rfl⟩
        | true =>
          rcases Nat.eq_zero_or_pos q with rfl | hq0
          · go_wp2_with fail
            go_meet
            exact ⟨rfl, rfl⟩
          · obtain ⟨i, hi, hmod⟩ := tmod_at M q hq0
            have hiR : i < R.length := by rw [L3.out.rl]; exact hi
            obtain ⟨g', off', rfl, hg', t0, t1, t2⟩ := L3.out.rd.cell (j := i) (by simpa using hiR)
            have ex : (R.map fro)[i]'(by simpa using hiR) = fro R[i] := by simp
            rw [ex] at t0 t1 t2
            have CLO := Lib.hid (lo_close L3.out HW.out hiR)
            have NXT := Lib.hid (HW.out.close hiR (by have := HF.out; omega))
            obtain ⟨r, hr⟩ : ∃ r, q = i + 1 + r := ⟨q - (i + 1), by omega⟩
            have DEL : Hid (∀ W G, Lo w W b k m G (some ⟨g', off', none⟩) q c R mN mE e e N N.ever → Calls Try.prog 22 #[.slice (some ⟨g', off', none⟩) q c, .int .i64 i, .int .i64 (i + 1)] W fun x W' => x = .returned (.slice (some ⟨g', off', none⟩) (i + r) c) ∧ Hid (Lo w W' b k m G (some ⟨g', off', none⟩) (i + r) c (R.eraseIdx i) mN mE e e N N.ever)) := fun W G h => (lo_delete h hr (by omega)).mono fun _ _ ⟨k1, k2, _⟩ => ⟨k1, k2⟩
            clear ex hr
            generalize R.eraseIdx i = R' at *
            generalize R[i] = rr at *
            obtain ⟨ri, rg⟩ := rr
            simp only [fro] at t0 t1 t2
            have hq1 : q ≠ 0 := by omega
            have hi63 : (i : Int) ≤ 63 := by omega
            go_wp2_with (first
              | (go_at_call 16; refine CLO.out.mono ?_; rintro e v1 ⟨rfl, h1, _⟩)
              | (go_at_call 22; refine (DEL.out _ _ h1.out).mono ?_; rintro e v2 ⟨rfl, h2⟩))
            go_roundw
            case rel => exact ⟨j + 1, i + r, c, _, by omega, rfl, by go_num, _, _, N, e, h2.out, NXT.out, by have := HE.out; omega⟩
            case measure => simp [intOf]; omega
      case rest =>
        obtain ⟨rfl, rfl⟩ := hcut
        go_wp2_with fail
        have hbA : Below wc.heap.size wc (wc.alloc (.cells #[.int .i64 0] 3)) := (Below.refl _ wc).alloc (Nat.le_refl _) _
        have R4 : Hid (Lo w (wc.alloc (.cells #[.int .i64 0] 3)) b k m F p q c R mN mE e e N N.ever ∧ Bk (wc.alloc (.cells #[.int .i64 0] 3)) X 52 #[.bool C, .int .u16 M] ∧ Bk (wc.alloc (.cells #[.int .i64 0] 3)) wc.heap.size 3 #[.int .i64 (0 : Nat)]) := ⟨L3.out.quiet hbA, BX.out.below hbA, Bk.new _ _ _⟩
        have HA : Hid (w.heap.size ≤ wc.heap.size) := L3.out.s.bel.size
        clear hbA L3 BX x0 x1
        generalize wc.alloc (.cells #[.int .i64 0] 3) = w4 at *
        generalize wc.heap.size = A at *
        go_loopw [] (fun wr => ∃ v : Nat, v ≤ n ∧ Hid (Lo w wr b k m F p q c R mN mE e e N N.ever) ∧ Hid (Bk wr X 52 #[.bool C, .int .u16 M]) ∧ Hid (Bk wr A 3 #[.int .i64 v]) ∧ Hid (∀ t, t < v → ∃ r ∈ R, r.1 = t)) (fun wr => n - (intOf ((wr.cell? ⟨A, 0, none⟩).getD undef)).toNat)
        case atStart => exact ⟨0, Nat.zero_le _, R4.out.1, R4.out.2.1, R4.out.2.2, fun t h => by omega⟩
        case round =>
          clear R4
          obtain ⟨v, hv, HLv, HXv, HAv, hbv⟩ := hrel
          have CO := Lib.hid (contains_ok A v w.heap.size p q c R _ HLv.out.rl HLv.out.r HAv.out)
          obtain ⟨bb, hbb⟩ : ∃ bb, (R.any fun r => decide (r.1 = v)) = bb := ⟨_, rfl⟩
          rw [hbb] at CO
          have HBB := Lib.hid hbb
          clear hbb
          cases bb with
          | true =>
            have hex := any_yes HBB.out
            have hvn := (HW.out.held hex).1
            have HEX := Lib.hid hex
            have hold := (int_cell HAv.out).1
            clear hex
            go_wp2_with (go_at_call 23; refine CO.out.mono ?_; rintro e v1 ⟨rfl, hb⟩; have L5 := Lib.hid (HLv.out.quiet hb); have X5 := Lib.hid (HXv.out.below hb); have A5 := Lib.hid (HAv.out.below hb); obtain ⟨a0, a1⟩ := int_cell A5.out; clear hb)
            have hd : Kept (· = A) v1 (v1.setCell ⟨A, 0, none⟩ (.int .i64 ((v : Int) + 1))) := (Kept.refl _ v1).put1 0 _
            have hnew := A5.out.put 0 (.int .i64 ((v : Int) + 1))
            refine ⟨⟨v + 1, hvn, L5.out.aside A5.out (by decide) (by decide) (by decide) HA.out hd, X5.out.kept hd (fun e => by subst e; exact absurd (X5.out.uniq A5.out).1 (by decide)), hnew, ?_⟩, ?_⟩
            · intro t ht
              rcases Nat.lt_succ_iff_lt_or_eq.1 ht with h | rfl
              · exact hbv.out t h
              · exact HEX.out
            · have h1 : (v1.setCell ⟨A, 0, none⟩ (.int .i64 ((v : Int) + 1))).cell? ⟨A, 0, none⟩ = some (.int .i64 ((v : Int) + 1)) := hnew.cell 0
              rw [h1, hold]
              simp [intOf]; omega
          | false =>
            have HNO := Lib.hid (any_no HBB.out)
            go_wp2_with (go_at_call 23; refine CO.out.mono ?_; rintro e v1 ⟨rfl, hb⟩; have L5 := Lib.hid (HLv.out.quiet hb); have X5 := Lib.hid (HXv.out.below hb); have A5 := Lib.hid (HAv.out.below hb); obtain ⟨a0, a1⟩ := int_cell A5.out; obtain ⟨y0, y1⟩ := move_cells X5.out; clear hb)
            clear CO HAv HXv HLv
            rcases Nat.lt_or_eq_of_le hv with hvn | rfl
            · have OPV := Lib.hid (lo_open L5.out HW.out hvn hbv.out HNO.out hM)
              have ABS := Lib.hid (HW.out.absent hvn (HW.out.free hvn HNO.out))
              have NXT := Lib.hid (HW.out.open hvn (HW.out.free hvn HNO.out) hM)
              have hgb := HW.out.ok.t.gm v
              have hg1 := HW.out.ok.t.g1 v (by rw [HW.out.n_eq]; exact hvn)
              have hv64 : (v : Int) ≤ 63 := by omega
              have hvn2 : ((v : Int) == (n : Int)) = false := by simp; omega
              generalize F.t.g v = g at *
              have hrg : RgO 1 v g := ⟨by omega, by omega, by omega, by omega, by omega, by omega⟩
              have HRG := Lib.hid hrg
              have HG : Hid (g ≤ 4294967295) := hgb
              clear hgb hg1 hrg
              go_upto_region 24 with (go_at_call 14; refine OPV.out.mono ?_; rintro e v2 ⟨rfl, h2, hk2⟩; have L6 := Lib.hid (h2.out.quiet ((Below.refl _ v2).alloc (Nat.le_refl _) (.cells #[.int .i64 1, .int .i64 v, .int .u32 g] 25))); have X6 := Lib.hid ((L5.out.box_file X5.out hk2.out (by decide) (by decide)).up (.cells #[.int .i64 1, .int .i64 v, .int .u32 g] 25)); have A6 := Lib.hid ((L5.out.box_file A5.out hk2.out (by decide) (by decide)).up (.cells #[.int .i64 1, .int .i64 v, .int .u32 g] 25)); have O6 := Lib.hid (Bk.new v2 25 #[.int .i64 1, .int .i64 v, .int .u32 g]); have hlk : (Instr.lookup 49 (.map (some mE)) (.agg #[.int .i64 1, .int .i64 v, .int .u32 g]) false).run Try.prog (v2.alloc (.cells #[.int .i64 1, .int .i64 v, .int .u32 g] 25)) = .ok (.int .i64 0) (v2.alloc (.cells #[.int .i64 1, .int .i64 v, .int .u32 g] 25)) := (L6.out.n2.look HRG.out).trans (by unfold Lk.ever; rw [ABS.out]; rfl); have L7 : Hid (True ∧ ∀ W, Below (v2.alloc (.cells #[.int .i64 1, .int .i64 v, .int .u32 g] 25)).heap.size (v2.alloc (.cells #[.int .i64 1, .int .i64 v, .int .u32 g] 25)) W → W.ownsRow w.heap.size 25 3 (.slice p q c) (R.map fro).length (ocls (R.map fro))) := ⟨trivial, fun W hW => by rw [List.length_map, L6.out.rl]; exact own_below L6.out.r hW⟩; obtain ⟨b0, b1⟩ := int_cell A6.out; obtain ⟨o0, o1, o2⟩ := cells3 O6.out; have hrow : ∀ g', (Value.slice p q c).ownBlock = some g' → g' ≠ v2.heap.size := fun g' hg' e => by (obtain ⟨_, _, hb⟩ := row_cells h2.out.r hg'; have := hb.lt; omega))
              have L8 : Hid (∀ W, Below (v2.alloc (.cells #[.int .i64 1, .int .i64 v, .int .u32 g] 25)).heap.size (v2.alloc (.cells #[.int .i64 1, .int .i64 v, .int .u32 g] 25)) W → W.ownsRow w.heap.size 25 3 (.slice p q c) (R.map fro).length (ocls (R.map fro))) := L7.out.2
              clear hlk L7 b0 b1 OPV h2 hk2
              generalize v2.heap.size = OA at *
              generalize (v2.alloc (.cells #[.int .i64 1, .int .i64 v, .int .u32 g] 25)) = v3 at *
              go_wp2_with (at_builtin; refine wpList_app_o rfl _ _ rfl ⟨1, v, g⟩ rfl rfl ?c1 (L8.out _ (bel_alloc (Below.refl _ _) _)) (Bk.new _ 25 #[.int .i64 1, .int .i64 v, .int .u32 g]) ?c2 ?c3 ?_)
              case c1 => rw [List.length_map]; exact L6.out.rl
              case c2 => rw [List.length_map, L6.out.rl]; omega
              case c3 => have := L6.out.s.bel.size; simp at this ⊢; omega
              intro p' c' w10 HAp
              have L9 : Hid (Lo w w10.drew b k m (F.opened v M) p' (q + 1) c' (R ++ [(v, g)]) mN mE e e N N.ever ∧ Bk w10.drew X 52 #[.bool C, .int .u16 M] ∧ Bk w10.drew OA 25 #[.int .i64 1, .int .i64 v, .int .u32 g]) := by
                obtain ⟨h1, h2⟩ := HAp.out
                have hb4 : Below v3.heap.size v3 (v3.alloc (.cells #[.int .i64 1, .int .i64 v, .int .u32 g] 25)) := (Below.refl _ _).alloc (Nat.le_refl _) _
                have L7 := L6.out.quiet hb4
                have e1 : (R ++ [(v, g)]).map fro = R.map fro ++ [(⟨1, v, g⟩ : Ro)] := by simp [fro]
                have e2 : (R.map fro ++ [(⟨1, v, g⟩ : Ro)]).length = q + 1 := by simp [L6.out.rl]
                rw [e2, ← e1] at h1
                have L8 := L7.row h2 (by simp [L6.out.rl]) h1
                exact ⟨L8.quiet (bel_drew (Below.refl _ _)), (L7.box_row (X6.out.below hb4) h2 (by decide)).same rfl, ((O6.out.below hb4).kept h2 fun e => hrow _ e rfl).same rfl⟩
              have R9 : Hid (∃ wN wE wB wC : World,
                  (Instr.mapUpdate 49 (.map (some mN)) (.agg #[.int .i64 1, .int .i64 v, .int .u32 g]) (.int .i64 M)).run Try.prog w10.drew = .ok () wN ∧ (Instr.mapUpdate 49 (.map (some mE)) (.agg #[.int .i64 1, .int .i64 v, .int .u32 g]) (.int .i64 1)).run Try.prog w10.drew = .ok () wE
                  ∧ (Instr.mapUpdate 49 (.map (some mE)) (.agg #[.int .i64 1, .int .i64 v, .int .u32 g]) (.int .i64 1)).run Try.prog wN = .ok () wB ∧ (Instr.mapUpdate 49 (.map (some mN)) (.agg #[.int .i64 1, .int .i64 v, .int .u32 g]) (.int .i64 M)).run Try.prog wE = .ok () wC
                  ∧ (Bk wN OA 25 #[.int .i64 1, .int .i64 v, .int .u32 g] ∧ Bk wN X 52 #[.bool C, .int .u16 M]) ∧ (Bk wE OA 25 #[.int .i64 1, .int .i64 v, .int .u32 g] ∧ Bk wE X 52 #[.bool C, .int .u16 M])
                  ∧ Hid (Lo w wB b k m (F.opened v M) p' (q + 1) c' (R ++ [(v, g)]) mN mE (e + 1) (e + 1) (upd N 1 v g (some M)) (upd N 1 v g (some M)).ever) ∧ Hid (Lo w wC b k m (F.opened v M) p' (q + 1) c' (R ++ [(v, g)]) mN mE (e + 1) (e + 1) (upd N 1 v g (some M)) (upd N 1 v g (some M)).ever)) := by
                obtain ⟨hLo, hX9, hO9⟩ := L9.out
                have hel : e < maxLen := by unfold maxLen; have := HE.out; omega
                have hab2 : N.ever 1 v g = none := by unfold Lk.ever; rw [ABS.out]; rfl
                obtain ⟨wN, r1, m1, k1⟩ := hLo.n1.store HRG.out (t := M) ⟨by omega, by omega⟩ ABS.out hel
                obtain ⟨wE, r2, m2, k2⟩ := hLo.n2.store HRG.out (t := 1) ⟨by omega, by omega⟩ hab2 hel
                have LN := hLo.put1 k1 m1
                have LE := hLo.put2 k2 m2
                obtain ⟨wB, r3, m3, k3⟩ := LN.n2.store HRG.out (t := 1) ⟨by omega, by omega⟩ hab2 hel
                obtain ⟨wC, r4, m4, k4⟩ := LE.n1.store HRG.out (t := M) ⟨by omega, by omega⟩ ABS.out hel
                refine ⟨wN, wE, wB, wC, r1, r2, r3, r4, ⟨hO9.kept k1 fun x => hLo.n1.no_cells (x ▸ hO9), hX9.kept k1 fun x => hLo.n1.no_cells (x ▸ hX9)⟩, ⟨hO9.kept k2 fun x => hLo.n2.no_cells (x ▸ hO9), hX9.kept k2 fun x => hLo.n2.no_cells (x ▸ hX9)⟩, ?_, ?_⟩
                · rw [ever_upd]; exact LN.put2 k3 m3
                · rw [ever_upd]; exact LE.put1 k4 m4
              obtain ⟨wN, wE, wB, wC, r1, r2, r3, r4, hN, hE, LB, LC⟩ := R9.out
              obtain ⟨o0, o1, o2⟩ := cells3 L9.out.2.2
              obtain ⟨y0, y1⟩ := move_cells L9.out.2.1
              obtain ⟨o3, o4, o5⟩ := cells3 hN.1
              obtain ⟨y3, y4⟩ := move_cells hN.2
              obtain ⟨o6, o7, o8⟩ := cells3 hE.1
              obtain ⟨y6, y7⟩ := move_cells hE.2
              clear hN hE R9 L9 HAp L8 L6 X6 A6 O6 hrow L5 X5 A5
              go_wp2_with fail
              go_region
              all_goals
                go_wp2_with fail
                go_roundw
                case rel => first | exact ⟨j + 1, q + 1, c', p', by omega, rfl, by go_num, _, _, _, e + 1, LB.out, NXT.out, by have := HE.out; omega⟩ | exact ⟨j + 1, q + 1, c', p', by omega, rfl, by go_num, _, _, _, e + 1, LC.out, NXT.out, by have := HE.out; omega⟩
                case measure => simp [intOf]; omega
            · have OPF := Lib.hid (lo_full L5.out HW.out hbv.out hM)
              go_wp2_with (go_at_call 14; refine OPF.out.mono ?_; rintro e v2 ⟨rfl, h2, hk2⟩; have L6 := Lib.hid (h2.out.quiet ((Below.refl _ v2).alloc (Nat.le_refl _) (.cells #[.int .i64 0, .int .i64 0, .int .u32 0] 25))); have A6 := Lib.hid ((L5.out.box_file A5.out hk2.out (by decide) (by decide)).up (.cells #[.int .i64 0, .int .i64 0, .int .u32 0] 25)); have O6 := Lib.hid (Bk.new v2 25 #[.int .i64 0, .int .i64 0, .int .u32 0]); obtain ⟨b0, b1⟩ := int_cell A6.out; obtain ⟨o0, o1, o2⟩ := cells3 O6.out)
              go_roundw
              case rel => exact ⟨j + 1, q, c, p, by omega, rfl, by go_num, F, R, N, e, L6.out, HW.out.skip, by have := HE.out; omega⟩
              case measure => simp [intOf]; omega
    · obtain rfl : j = T := by omega
      have FIN : Hid (∃ l : List Fe, l.length = q ∧ l.map Fe.pr = R ∧ wr.ownsRow w.heap.size 25 3 (.slice p q c) q (erow l)) := by
        refine ⟨R.map fun r => (⟨r.1 % 64, Nat.mod_lt _ (by decide)⟩, r.2), by rw [List.length_map]; exact HL.out.rl, ?_, ?_⟩
        · rw [List.map_map]
          refine (List.map_congr_left fun r hr => ?_).trans (List.map_id _)
          have := (fro_rg HW.out hr).2.2
          exact Prod.ext (Nat.mod_eq_of_lt this) rfl
        · have e1 : erow (R.map fun r => ((⟨r.1 % 64, Nat.mod_lt _ (by decide)⟩, r.2) : Fe)) = ocls (R.map fro) := by
            unfold erow
            rw [List.map_map]
            congr 1
            refine List.map_congr_left fun r hr => ?_
            have := (fro_rg HW.out hr).2.2
            show fro (r.1 % 64, r.2) = fro r
            rw [Nat.mod_eq_of_lt this]
          rw [e1]; exact HL.out.r
      obtain ⟨l, hl1, hl2, hl3⟩ := FIN.out
      have SO := Lib.hid (sort_ok w.heap.size q c p l hl1 (by omega) wr hl3)
      have SN : Hid (∀ W (l' : List Fe), l'.Perm l → l'.Pairwise (fun a b => a.1.1 ≤ b.1.1) → W.ownsRow w.heap.size 25 3 (.slice p q c) q (erow l') → Kept (fun g => (Value.slice p q c).ownBlock = some g) wr W → ∃ S : List (Nat × Nat), S.map fro = F.all ∧ (∀ r ∈ S, r ∈ R) ∧ Lo w W b k m F p q c S mN mE e e N N.ever) := fun W l' k1 k2 k3 k4 => by
        have hp : (l'.map Fe.pr).Perm R := hl2 ▸ k1.map Fe.pr
        refine ⟨l'.map Fe.pr, HW.out.sorted hp (List.pairwise_map.2 k2), fun r hr => hp.mem_iff.1 hr, HL.out.row k4 (by rw [List.length_map, k1.length_eq, hl1]) ?_⟩
        rw [List.map_map]
        exact k3
      clear hl1 hl2 hl3 FIN
      go_wp2_with (go_at_call 25; refine SO.out.mono ?_; rintro x v1 ⟨rfl, l', k1, k2, k3, k4⟩; have S1 := Lib.hid (SN.out _ l' k1 k2 k3 k4); clear k1 k2 k3 k4)
      obtain ⟨S, hS1, hS2, hS3⟩ := S1.out
      have HS1 := Lib.hid hS1
      have HS2 := Lib.hid hS2
      have L1 := Lib.hid hS3
      clear hS1 hS2 hS3 S1 SO SN HL
      go_loopw [128] (fun u wr => ∃ i : Nat, i ≤ q ∧ u = .int .i64 i ∧ Hid (Lo w wr b k m F p q c S mN mE e e N N.ever)) (fun u _ => q - (intOf u).toNat)
      case atStart => exact ⟨0, Nat.zero_le _, rfl, L1.out⟩
      case round =>
        clear L1
        obtain ⟨i, hi, rfl, HI⟩ := hrel
        by_cases hlt : i < q
        · have hiS : i < S.length := by rw [HI.out.rl]; exact hlt
          obtain ⟨g', off', rfl, hg', t0, t1, t2⟩ := HI.out.rd.cell (j := i) (by simpa using hiS)
          have ex : (S.map fro)[i]'(by simpa using hiS) = fro S[i] := by simp
          rw [ex] at t0 t1 t2
          obtain ⟨f1', f2', f3'⟩ := fro_rg HW.out (HS2.out _ (List.getElem_mem hiS))
          have hmem := (HW.out.mem S[i]).1 (HS2.out _ (List.getElem_mem hiS))
          have hNy := HW.out.yes S[i].1 hmem.1 hmem.2.1
          rw [← hmem.2.2] at hNy
          have hnum : F.number 1 S[i].1 S[i].2 = F.num S[i].1 := by unfold Fb.number; rw [Fb.look_open f2']; rfl
          generalize S[i] = rr at *
          obtain ⟨ri, rg⟩ := rr
          simp only [fro] at t0 t1 t2 f1' f2' hNy hnum
          generalize F.num ri = y at *
          have NU : Hid (∀ W, Lo w W b k m F (some ⟨g', off', none⟩) q c S mN mE e e N N.ever → Calls Try.prog 27 #[.pointer (some ⟨b, 0, none⟩), .agg #[.int .i64 1, .int .i64 ri, .int .u32 rg]] W fun x W' => x = .returned (.tuple #[.int .i64 y, .int .i64 0]) ∧ Below W.heap.size W W') := fun W h => (number_s 1 ri rg y 0 h.s f1' hnum f2').mono fun _ _ ⟨k1, _, k3⟩ => ⟨k1, k3.out⟩
          have LK : Hid (∀ W, Lo w W b k m F (some ⟨g', off', none⟩) q c S mN mE e e N N.ever → (Instr.lookup 49 (.map (some mN)) (.agg #[.int .i64 1, .int .i64 ri, .int .u32 rg]) false).run Try.prog W = .ok (.int .i64 y) W) := fun W h => (h.n1.look f1').trans (by rw [hNy]; rfl)
          clear ex f1' f2' f3' hmem hNy hnum hg'
          go_wp2_with (go_at_call 27; refine (NU.out _ (HI.out.quiet ((Below.refl _ _).alloc (Nat.le_refl _) _))).mono ?_; rintro x v2 ⟨rfl, hb⟩; have L2 := Lib.hid (HI.out.quiet (bel2 ((Below.refl _ _).alloc (Nat.le_refl _) _) hb)); have hlk := LK.out _ L2.out; obtain ⟨q0, q1, q2, q3⟩ := box_o hb; clear hb)
          go_roundw
          case rel => exact ⟨i + 1, by omega, by go_num, L2.out⟩
          case measure => simp [intOf]; omega
        · obtain rfl : i = q := by omega
          obtain ⟨LL, hLL⟩ : ∃ LL, F.all = LL := ⟨_, rfl⟩
          have hlen : LL.length = i := by rw [← hLL, ← HS1.out, List.length_map]; exact HI.out.rl
          have AL := Lib.hid (all_s LL HI.out.s hLL)
          have RO : Hid (RdO wr (.slice p i c) LL) := by have := HI.out.rd; rw [HS1.out, hLL] at this; exact this
          have LE : Hid (∀ W, FSt w W b k m F → Calls Try.prog 30 #[.pointer (some ⟨b, 0, none⟩)] W fun e w' => e = .returned (.int .i64 i) ∧ W = w') := fun W h => by
            have := flen_ok b k m F W h.f
            rw [← F.all_len, hLL, hlen] at this
            exact this
          have EQ : Hid (∀ W p c' p2 c2, RdO W (.slice p i c') LL → RdO W (.slice p2 i c2) LL → Calls Try.prog 28 #[.slice p i c', .slice p2 i c2] W fun e w' => e = .returned (.bool true) ∧ Below W.heap.size W w') := fun W p c' p2 c2 h1 h2 => by subst hlen; exact equal_yes _ _ _ _ _ _ LL W h1 h2
          rw [hlen] at AL
          have HLN := Lib.hid hlen
          clear hlen hLL HS1 HS2
          go_wp2_with (first
            | (go_at_call 29; refine AL.out.mono ?_; rintro x v1 ⟨p1, c1, rfl, k1, k2, k3⟩; have A1 : Hid (RdO v1 (.slice p1 i c1) LL ∧ RdO v1 (.slice p i c) LL ∧ FSt w v1 b k m F) := ⟨by have := k1.out.rd; exact this, RO.out.below k3.out, k2.out⟩; clear k1 k2 k3)
            | (go_at_call 28; refine (EQ.out _ _ _ _ _ A1.out.1 A1.out.2.1).mono ?_; rintro x v2 ⟨rfl, hb⟩; have A2 := Lib.hid (A1.out.2.2.quiet hb); clear hb)
            | (go_at_call 30; refine (LE.out _ A2.out).mono ?_; rintro x v3 ⟨rfl, rfl⟩)
            | (go_at_call 10; refine (works_ok _).mono ?_; rintro x v4 ⟨rfl, hb⟩; have A4 := Lib.hid (bel2 A2.out.bel hb); clear hb))
          go_ret
          exact ⟨rfl, A4.out⟩
end Go.Proofs.Ythahmcipkchdjaa
