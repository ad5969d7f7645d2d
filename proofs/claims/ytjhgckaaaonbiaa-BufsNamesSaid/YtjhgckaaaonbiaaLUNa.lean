/- The walk of BufsNames, its argument first 0. -/
import Derived.Test.YtjhgckaaaonbiaaUj
import Derived.Test.YtjhgckaaaonbiaaUz
import Derived.Deep.Cut
import Derived.Deep.CutRange
import Derived.Deep.QuietTactic
import Derived.BigQuiet
namespace Go.Proofs.Ytjhgckaaaonbiaa
open Go.RowKit

set_option maxHeartbeats 8000000 in
set_option maxRecDepth 1000000 in
theorem uNam_a (x0 x1 : Int) (a : Option Addr) (len cap : Nat) (cl : Nat → Bool) (num : Nat → Nat) (f : Nat) (w : World) (h00 : 0 ≤ x0) (h01 : x0 ≤ 255) (h10 : 0 ≤ x1) (h11 : x1 ≤ 65535) (hf1 : 1 ≤ f) (hf2 : f ≤ 4294967295) (hff : f = 1) (hl : len ≤ 200) (hu : Turns w a len cl num) :
    Calls Try.prog 5 #[.int .u8 x0, .int .u16 x1, .int .u32 0, .slice a len cap] w fun e w' => e = .returned (.bool true) ∧ Below w.heap.size w w' := by
  obtain ⟨n, hn⟩ : ∃ n : Nat, 1 + x0 % 64 = (n : Int) := ⟨(1 + x0 % 64).toNat, by omega⟩
  obtain ⟨r, hr⟩ : ∃ r : Nat, 1 + x1 % 4000 = (r : Int) := ⟨(1 + x1 % 4000).toNat, by omega⟩
  have hn2 : (n : Int) ≤ 64 := by omega
  have hn1 : (1 : Int) ≤ n := by omega
  have hr2 : (r : Int) ≤ 4000 := by omega
  have hr1 : (1 : Int) ≤ r := by omega
  have h5 : 0 ≤ x0 % 64 ∧ x0 % 64 ≤ 63 ∧ 0 ≤ x1 % 4000 ∧ x1 % 4000 ≤ 3999 := by omega
  obtain ⟨h6, h7, h8, h9⟩ := h5
  have NWx : ∀ x : Int, x = (f : Int) → Hid (Calls Try.prog 11 #[.int .i64 n, .int .i64 r, .int .u32 x] w fun e w' => ∃ b, e = .returned (.tuple #[.pointer (some ⟨b, 0, none⟩), .int .i64 0]) ∧ PNew (pfresh n r f) w b w') := by
    rintro x rfl
    exact pnew_ok n r f w (by omega) (by omega) hf1 hf2 (by omega) (by omega)
  have NW := NWx 1 (by omega)
  have HFF := Lib.hid hff
  have W0 := Lib.hid (Nw.fresh (n := n) (r := r) (f := f) (by omega) (by omega) hf1 hf2 (by omega))
  have HF2 := Lib.hid (And.intro hf1 hf2)
  have HU := Lib.hid hu
  have hl2 : (len : Int) ≤ 200 := by omega
  have hmm := @run_makeMap Try.prog
  clear hu hf1 hf2 hff NWx
  go_enter Try.func5, Try.ntmps5
  go_wp2_with (go_at_call 11; refine NW.out.mono ?_; rintro e w1 ⟨b, rfl, hf⟩; have HF := Lib.hid hf; clear hf)
  obtain ⟨s, k, S1⟩ := PSt.new HF.out
  have N0 := Lib.hid (show Nx w (w1.alloc (.map #[] 0)) b s k n f none 0 0 none 0 0 w1.heap.size 0 from ⟨_, _, _, _, Nb.start S1, W0.out⟩)
  clear HF S1 hmm W0 NW hr hn1 hr1 hr2 h8 h9
  generalize w1.alloc (.map #[] 0) = w2 at *
  generalize w1.heap.size = mB at *
  go_loopw [12, 13, 14] (fun v u z wr => ∃ (j q c q' c' e : Nat) (p p' : Option Addr), j ≤ len ∧ e ≤ j ∧ q ≤ j ∧ q' ≤ j ∧ v = .slice p q c ∧ u = .slice p' q' c' ∧ z = .int .i64 j ∧ Hid (Nx w wr b s k n f p q c p' q' c' mB e)) (fun _ _ z _ => len - (intOf z).toNat)
  case atStart => exact ⟨0, 0, 0, 0, 0, 0, none, none, Nat.zero_le _, Nat.zero_le _, Nat.zero_le _, Nat.zero_le _, rfl, rfl, rfl, N0.out⟩
  case round =>
    clear N0
    obtain ⟨j, q, c, q', c', e, p, p', hj, hej, hqj, hqj', rfl, rfl, rfl, HI⟩ := hrel
    obtain ⟨P, R, G, N, hB0, hW0⟩ := HI.out
    have HB := Lib.hid hB0
    have HW := Lib.hid hW0
    have hq64 : (q : Int) ≤ 64 := by have := hW0.len; have := hB0.rl; have := hW0.ok.held_len; omega
    clear HI hB0 hW0
    by_cases hlt : j < len
    · obtain ⟨B, off, rfl, hB, hcells⟩ := (HU.out.below HB.out.st.bel).at_ (show 0 < len by omega)
      obtain ⟨hc0, hc1⟩ := hcells j (by omega)
      have hM := HU.out.bd j (by omega)
      have hj199 : (j : Int) ≤ 199 := by omega
      generalize cl j = C at *
      generalize num j = M at *
      have hM2 : (M : Int) ≤ 65535 := by omega
      clear hcells hM
      go_upto_region 12 with fail
      rename_i K hK
      have hK' := fun a w (h : Hid (∀ K2 : Act → World → Prop, _ → _)) => hK a w (wp_seq_k h.out)
      clear hK
      go_wp2_with fail
      intro K2 hK2
      have HPR := Lib.hid hc0
      go_cut [12, 13] from 59 to 148 (fun v u wx => ∃ (q1 c1 q2 c2 e2 : Nat) (p1 p2 : Option Addr), e2 ≤ j + 1 ∧ q1 ≤ j + 1 ∧ q2 ≤ j + 1 ∧ v = .slice p1 q1 c1 ∧ u = .slice p2 q2 c2 ∧ Hid (Nx w wx b s k n f p1 q1 c1 p2 q2 c2 mB e2))
      case first =>
        clear hK2
        cases C with
        | false =>
          rcases Nat.eq_zero_or_pos q with rfl | hq0
          · go_wp2_with fail
            go_meet
            exact ⟨0, c, q', c', e, p, p', by omega, by omega, by omega, rfl, rfl, P, R, G, N, HB.out, HW.out⟩
          · have hmod : (M : Int).tmod (q : Int) = ((M % q : Nat) : Int) := tmod_nat M q
            have hyl : M % q < q := Nat.mod_lt _ hq0
            generalize M % q = y at *
            have hyl2 : (y : Int) < q := by omega
            have hq1 : (0 : Int) < q := by omega
            have hyR : y < R.length := by rw [HB.out.rl]; exact hyl
            obtain ⟨g, rfl, hg, hqc, t0, t1, t2, t3⟩ := held_cells HB.out.r HB.out.rl hyl
            obtain ⟨hck, _⟩ := HW.out.chk (List.getElem_mem hyR)
            have hW2 := Lib.hid (HW.out.unpin hyR)
            have UN : Hid (Calls Try.prog 16 #[.pointer (some ⟨b, 0, none⟩), .agg #[.int .i64 2, .int .i64 R[y].i, .int .u32 R[y].g]] wr fun e' w' => e' = .returned (.int .i64 0) ∧ Hid (Nb w w' b s k (P.gave R[y].i) (some ⟨g, 0, none⟩) q c R p' q' c' G mB e N)) := by
              refine (unpin_s 2 R[y].i R[y].g 0 HB.out.st hck).mono ?_
              rintro e w' ⟨h1, h2, h3⟩
              rw [Po.unpin_of hck] at h2
              exact ⟨h1, HB.out.pool h3.out h2.out⟩
            have TC : Hid (∀ W : World, (∀ _ : W.ownsRow w.heap.size 60 4 (.slice (some ⟨g, 0, none⟩) q c) q (icls R), W.cell? ⟨g, y * 4, none⟩ = some (.int .i64 2) ∧ W.cell? ⟨g, y * 4 + 1, none⟩ = some (.int .i64 R[y].i) ∧ W.cell? ⟨g, y * 4 + 2, none⟩ = some (.int .u32 R[y].g) ∧ g < W.heap.size)) := fun W h => by
              obtain ⟨g', e1, h1, _, h2, h3, h4, _⟩ := held_cells h HB.out.rl hyl
              injection e1 with e1
              injection e1 with e1
              subst e1
              exact ⟨h2, h3, h4, h1⟩
            have hib : R[y].i < 64 ∧ R[y].g ≤ 4294967295 := by
              obtain ⟨h1, _, h3, _⟩ := HW.out.mem _ (List.getElem_mem hyR)
              have := HW.out.ok.t.gm R[y].i
              have := HW.out.ok.hi
              have := HW.out.n_eq
              omega
            have HRL : Hid ((R.eraseIdx y).length = q - 1) := by
              unfold Hid
              rw [List.length_eraseIdx_of_lt hyR, HB.out.rl]
            have hcm : c ≤ maxLen := by
              rcases HB.out.r.2 with ⟨e, h0⟩ | ⟨_, cap, _, e, _, _, _, h4, _⟩
              · cases e
              · cases e; exact h4
            have HCM := Lib.hid hcm
            generalize R[y].i = I at *
            generalize R[y].g = K at *
            clear hck t3 hcm
            go_wp2_with fail
            refine UN.out.mono ?_
            rintro e' w3 ⟨rfl, HB3⟩
            clear t0 t1 t2 hg UN HB
            obtain ⟨t0, t1, t2, hg⟩ := TC.out w3 HB3.out.r
            go_wp2_with (at_builtin; refine wpList_app_o rfl _ _ rfl ⟨2, I, K⟩ rfl rfl (by rw [List.length_map]; exact HB3.out.gl) (own_below HB3.out.g ((Below.refl _ _).alloc (Nat.le_refl _) _)) (Bk.new w3 34 #[.int .i64 2, .int .i64 I, .int .u32 K]) (by rw [List.length_map, HB3.out.gl]; omega) (by have := HB3.out.st.bel.size; simp; omega) ?_)
            intro p2 c2 w4 HA
            have HB4 : Hid (Nb w w4 b s k (P.gave I) (some ⟨g, 0, none⟩) q c R p2 (q' + 1) c2 (G ++ [(I, K)]) mB e N) := by
              obtain ⟨o1, o2⟩ := HA.out
              have e1 : (G ++ [(I, K)]).map bro = G.map bro ++ [⟨2, I, K⟩] := by simp [bro]
              have hq := HB3.out.quiet ((Below.refl _ _).alloc (Nat.le_refl _) (.cells #[.int .i64 2, .int .i64 I, .int .u32 K] 34))
              refine hq.rowG o2 (by rw [List.length_append, hq.gl]; rfl) ?_
              rw [e1]
              rwa [List.length_append, List.length_map, hq.gl] at o1
            clear HA HB3 t0 t1 t2 hg
            go_upto_region 25 with fail
            refine app2_region (by exact (by decide : (148 : Nat) < 258)) rfl rfl HB4.out.r HB4.out.rl hyl (by omega) hqc HCM.out ?_
            intro u0 u1 u2 u3 u4 u5 u6 u7 u8 u9 x W hb ho
            obtain ⟨p5, c5, rfl⟩ := own_form ho
            have HB5 : Hid (Nb w W b s k (P.gave I) p5 (R.eraseIdx y).length c5 (R.eraseIdx y) p2 (q' + 1) c2 (G ++ [(I, K)]) mB e N) :=
              (HB4.out.quiet hb).rowI (Kept.of_below (Below.refl _ _)) rfl (own_lower ho HB4.out.st.bel.size)
            rw [HRL.out] at HB5 ⊢
            clear HB4 hb ho
            simp only [List.setIfInBounds_toArray, List.set_cons_succ, List.set_cons_zero]
            go_wp2_with fail
            go_meet
            exact ⟨q - 1, c5, q' + 1, c2, e, p5, p2, by omega, by omega, by omega, rfl, rfl, _, _, _, _, HB5.out, hW2.out⟩
        | true =>
          have hmod : (M : Int).tmod 300 = ((M % 300 : Nat) : Int) := tmod_nat M 300
          have hq : ((M % 300 : Nat) : Int) ≤ 299 := by omega
          generalize M % 300 = y at *
          by_cases hcan : P.can (y : Int) = 0
          · obtain ⟨y1, y2, _, i, t, hfree⟩ := Po.can_zero hcan
            obtain ⟨z1, z2, z3, z4⟩ := Po.pin_zero hcan hfree
            obtain ⟨f1, f2⟩ := Tb.free_lt hfree
            rw [HW.out.n_eq] at f1
            have hW2 := Lib.hid (HW.out.pin (x := y) f1 f2 (by omega))
            have hnew := HW.out.new f2
            have hlo := HW.out.lo i f1
            have hgm := HW.out.ok.t.gm i
            have PN : Hid (Calls Try.prog 13 #[.pointer (some ⟨b, 0, none⟩), .int .i64 y] wr fun e' w' => e' = .returned (.tuple #[.agg #[.int .i64 2, .int .i64 i, .int .u32 (P.t.g i)], .int .i64 0]) ∧ Hid (Nb w w' b s k (P.put i y) p q c R p' q' c' G mB e N) ∧ Hid (Kept (PFoot b s k) wr w')) := by
              refine (pin_s y 2 i (P.t.g i) 0 HB.out.st (by rw [z2]; rfl) (by rw [z3]) (by rw [z4]) hcan).mono ?_
              rintro e' w' ⟨h1, h2, h3⟩
              rw [z1, Int.toNat_natCast] at h2
              exact ⟨h1, HB.out.pool h3.out h2.out, h3⟩
            generalize P.t.g i = K at *
            have hi64 : (i : Int) < n := by omega
            have hi63 : ¬ x0 % 64 < (i : Int) := by omega
            have hKf : ¬ (K : Int) < 1 := by have := HFF.out; omega
            have hrg : RgO 2 i K := ⟨by omega, by omega, by omega, by omega, by omega, by omega⟩
            have HRG := Lib.hid hrg
            have HNW := Lib.hid hnew
            clear hcan y1 hfree z1 z2 z3 z4 f1 f2 hnew hlo hgm hrg
            go_wp2_with fail
            refine PN.out.mono ?_
            rintro e' w3 ⟨rfl, HB3, _⟩
            have HB4 : Hid (Nb w (w3.alloc (.cells #[.int .i64 2, .int .i64 i, .int .u32 K] 34)) b s k (P.put i y) p q c R p' q' c' G mB e N) := HB3.out.quiet ((Below.refl _ _).alloc (Nat.le_refl _) _)
            have OA := Lib.hid (Bk.new w3 34 #[.int .i64 2, .int .i64 i, .int .u32 K])
            have hlook := HB4.out.n.look HRG.out
            rw [HNW.out] at hlook
            unfold okey at hlook
            clear HB3 PN HB
            go_upto_region 18 with fail
            generalize w3.heap.size = A at *
            generalize w3.alloc (.cells #[.int .i64 2, .int .i64 i, .int .u32 K] 34) = w4 at *
            obtain ⟨w5, hst, hm5, hk5⟩ := HB4.out.n.store HRG.out (by unfold maxLen; omega)
            have HB5 := Lib.hid (HB4.out.mapS hk5 hm5)
            have OA5 : Hid (Bk w5 A 34 #[.int .i64 2, .int .i64 i, .int .u32 K]) := OA.out.kept hk5 (fun e => HB4.out.n.no_cells (by rw [← e]; exact OA.out))
            obtain ⟨a0, a1, a2, a3⟩ := ob_cells OA.out
            obtain ⟨d0, d1, d2, d3⟩ := ob_cells OA5.out
            unfold okey at hst
            clear hlook HB4 hm5 hk5 OA
            go_wp2_with (at_builtin; refine wpList_app_i rfl _ _ rfl ⟨i, K, y⟩ rfl rfl HB5.out.rl (own_below HB5.out.r ((Below.refl _ _).alloc (Nat.le_refl _) _)) (Bk.new w5 60 #[.int .i64 2, .int .i64 i, .int .u32 K, .int .i64 y]) (by rw [HB5.out.rl]; omega) (by have := HB5.out.st.bel.size; simp; omega) ?_)
            intro p5 c5 w6 HA
            have HB6 : Hid (Nb w w6 b s k (P.put i y) p5 (q + 1) c5 (R ++ [⟨i, K, y⟩]) p' q' c' G mB (e + 1) (seen1 N 2 i K)) := by
              obtain ⟨o1, o2⟩ := HA.out
              have hq := HB5.out.quiet ((Below.refl _ _).alloc (Nat.le_refl _) (.cells #[.int .i64 2, .int .i64 i, .int .u32 K, .int .i64 y] 60))
              refine hq.rowI o2 (by rw [List.length_append, hq.rl]; rfl) ?_
              rwa [List.length_append, hq.rl] at o1
            clear HA HB5 OA5 a0 a1 a2 a3 d0 d1 d2 d3 hst
            go_wp2_with fail
            go_meet
            exact ⟨q + 1, c5, q', c', e + 1, p5, p', by omega, by omega, by omega, rfl, rfl, _, _, _, _, HB6.out, hW2.out⟩
          · obtain ⟨z1, z2, z3, z4⟩ := Po.pin_ne hcan
            have hE : (P.can (y : Int) != 0) = true := by simpa using hcan
            have PN : Hid (Calls Try.prog 13 #[.pointer (some ⟨b, 0, none⟩), .int .i64 y] wr fun e' w' => e' = .returned (.tuple #[.agg #[.int .i64 0, .int .i64 0, .int .u32 0], .int .i64 (P.can y)]) ∧ Hid (Nb w w' b s k P p q c R p' q' c' G mB e N)) := by
              refine (pin_s y 0 0 0 (P.can y) HB.out.st (by rw [z2]; rfl) (by rw [z3]; rfl) (by rw [z4]; rfl) rfl).mono ?_
              rintro e' w' ⟨h1, h2, h3⟩
              rw [z1] at h2
              exact ⟨h1, HB.out.pool h3.out h2.out⟩
            generalize P.can (y : Int) = E at *
            clear hcan z1 z2 z3 z4
            go_wp2_with fail
            refine PN.out.mono ?_
            rintro e' w3 ⟨rfl, HB3⟩
            have HB4 : Hid (Nb w (w3.alloc (.cells #[.int .i64 0, .int .i64 0, .int .u32 0] 34)) b s k P p q c R p' q' c' G mB e N) := HB3.out.quiet ((Below.refl _ _).alloc (Nat.le_refl _) _)
            clear HB3 PN HB
            go_wp2_with fail
            go_roundw
            case rel => exact ⟨j + 1, q, c, q', c', e, p, p', by omega, by omega, by omega, by omega, rfl, rfl, by go_num, P, R, G, N, HB4.out, HW.out⟩
            case measure => simp [intOf]; omega
      case rest =>
        clear HB HW HPR hc1 hB hc0 hM2
        obtain ⟨q1, c1, q2, c2, e2, p1, p2, he2, hq1j, hq2j, rfl, rfl, HNX⟩ := hcut
        obtain ⟨P1, R1, G1, N1, hB1, hW1⟩ := HNX.out
        have HB1 := Lib.hid hB1
        have HW1 := Lib.hid hW1
        have hq164 : (q1 : Int) ≤ 64 := by have := hW1.len; have := hB1.rl; have := hW1.ok.held_len; omega
        have SL : Hid (∀ t, t ≤ q1 → sumI R1 t ≤ t * 65536) := fun t ht => sumI_le (fun r hr => by rw [(hW1.mem r hr).2.2.2]; exact hW1.ok.m _) t (by rw [hB1.rl]; exact ht)
        clear hB1 hW1 HNX hq64 hqj hqj' hej
        go_wp2_with fail
        go_loopw [19, 20] (fun u v wx => ∃ t : Nat, t ≤ q1 ∧ u = .int .i64 (sumI R1 t) ∧ v = .int .i64 t ∧ Hid (Below wc.heap.size wc wx)) (fun _ v _ => q1 - (intOf v).toNat)
        case atStart => exact ⟨0, Nat.zero_le _, rfl, rfl, Below.refl _ _⟩
        case round =>
          obtain ⟨t, ht, rfl, rfl, HX⟩ := hrel
          by_cases hlt2 : t < q1
          · have htR : t < R1.length := by rw [HB1.out.rl]; exact hlt2
            obtain ⟨g1, rfl, hg1, hqc1, t0, t1, t2, t3⟩ := held_cells (HB1.out.quiet HX.out).r HB1.out.rl hlt2
            obtain ⟨k1, k2⟩ := HW1.out.chk (List.getElem_mem htR)
            have TC : Hid (∀ W, Below wc.heap.size wc W → W.cell? ⟨g1, t * 4 + 3, none⟩ = some (.int .i64 R1[t].x) ∧ g1 < W.heap.size) := fun W hW => by
              obtain ⟨g', ee, h1, _, _, _, _, h2⟩ := held_cells (HB1.out.quiet hW).r HB1.out.rl hlt2
              injection ee with ee
              injection ee with ee
              subst ee
              exact ⟨h2, h1⟩
            have BY := Lib.hid (bytes_s 2 R1[t].i R1[t].g R1[t].x 0 (HB1.out.quiet HX.out).st (by rw [k2]) k1)
            have hst := sumI_step htR
            have hs1 := SL.out t (by omega)
            have hs2 := SL.out (t + 1) (by omega)
            rw [hst] at hs2
            have HST := Lib.hid hst
            generalize R1[t].i = I at *
            generalize R1[t].g = K at *
            generalize R1[t].x = X at *
            obtain ⟨sm, hsm⟩ : ∃ sm, sumI R1 t = sm := ⟨_, rfl⟩
            rw [hsm] at HST hs1 hs2 ⊢
            have hsb : (sm : Int) ≤ 4194304 := by omega
            have hXb : (X : Int) ≤ 4259840 := by omega
            clear k1 k2 hst hsm hs1 hs2 t3
            go_wp2_with (go_at_call 20; (with_reducible refine BY.out.mono ?_); rintro e' w7 ⟨rfl, _, HBy⟩; clear t0 t1 t2 hg1; obtain ⟨t3, hg1⟩ := TC.out w7 (bel2 HX.out HBy.out))
            go_roundw
            case rel => exact ⟨t + 1, by omega, by rw [HST.out]; go_num, by go_num, bel2 HX.out HBy.out⟩
            case measure => simp [intOf]; omega
          · obtain rfl : t = q1 := by omega
            have hU := HW1.out.sum
            rw [← sumI_all HB1.out.rl] at hU
            obtain ⟨U, hU2⟩ : ∃ U, sumI R1 t = U := ⟨_, rfl⟩
            rw [hU2] at hU ⊢
            have hLn : P1.t.held.length = t := by rw [← HW1.out.len]; exact HB1.out.rl
            have HLL := Lib.hid (And.intro hU.symm (And.intro hLn (show P1.all.length = t by rw [P1.all_len]; exact hLn)))
            have HB2 := Lib.hid (HB1.out.quiet HX.out)
            clear hU hU2 hLn HB1 SL HX
            go_wp2_with (first
              | (go_at_call 21; (with_reducible refine (used_s U HB2.out.st HLL.out.1).mono ?_); rintro e' w7 ⟨rfl, _, HC7⟩; have HB7 := Lib.hid (HB2.out.quiet HC7.out))
              | (go_at_call 23; (with_reducible refine (len_s t HB7.out.st HLL.out.2.1).mono ?_); rintro e' w8 ⟨rfl, _, HC8⟩; have HB8 := Lib.hid (HB7.out.quiet HC8.out))
              | (go_at_call 22; (with_reducible refine (all_s P1.all HB8.out.st rfl).mono ?_); rintro e' w9 ⟨p9, c9, rfl, _, _, HC9⟩; have HB9 := Lib.hid (HB8.out.quiet HC9.out); rw [HLL.out.2.2]))
            go_roundw
            case rel => exact ⟨j + 1, t, c1, q2, c2, e2, p1, p2, by omega, by omega, by omega, by omega, rfl, rfl, by go_num, P1, R1, G1, N1, HB9.out, HW1.out⟩
            case measure => simp [intOf]; omega
    · obtain rfl : j = len := by omega
      have hL64 : P.all.length ≤ 64 := by rw [P.all_len]; exact HW.out.ok.held_len
      generalize wr = w8 at *
      go_wp2_with fail
      go_loopw [23] (fun u wx => ∃ t : Nat, t ≤ q' ∧ u = .int .i64 t ∧ Hid (Below w8.heap.size w8 wx)) (fun v _ => q' - (intOf v).toNat)
      case atStart => exact ⟨0, Nat.zero_le _, rfl, Below.refl _ _⟩
      case round =>
        obtain ⟨t, ht, rfl, HX⟩ := hrel
        by_cases hlt3 : t < q'
        · have HBx := Lib.hid (HB.out.quiet HX.out)
          have htG : t < G.length := by rw [HB.out.gl]; exact hlt3
          have hrd : RdO wr (.slice p' q' c') (G.map bro) := RdO.of_own (by rw [List.length_map, HB.out.gl]; exact HBx.out.g)
          obtain ⟨g1, off1, rfl, hg1, t0, t1, t2⟩ := hrd.cell (j := t) (by rw [List.length_map]; exact htG)
          rw [List.getElem_map] at t0 t1 t2
          have hst := HW.out.stale (List.getElem_mem htG)
          generalize G[t] = r1 at *
          obtain ⟨I, K⟩ := r1
          simp only [bro] at t0 t1 t2 hst
          have TC : Hid (∀ W, Below wr.heap.size wr W → W.cell? ⟨g1, off1 + t * 3, none⟩ = some (.int .i64 2) ∧ W.cell? ⟨g1, off1 + t * 3 + 1, none⟩ = some (.int .i64 I) ∧ W.cell? ⟨g1, off1 + t * 3 + 2, none⟩ = some (.int .u32 K) ∧ g1 < W.heap.size) := fun W hW =>
            ⟨(World.cell?_of_block (a := ⟨g1, off1 + t * 3, none⟩) (hW.block g1 hg1)).trans t0, (World.cell?_of_block (a := ⟨g1, off1 + t * 3 + 1, none⟩) (hW.block g1 hg1)).trans t1, (World.cell?_of_block (a := ⟨g1, off1 + t * 3 + 2, none⟩) (hW.block g1 hg1)).trans t2, Nat.lt_of_lt_of_le hg1 hW.size⟩
          have BY := Lib.hid (bytes_no b s k P 2 I K 7 wr HBx.out.st.f hst (by decide))
          have HST := Lib.hid hst
          have hqc : q' ≤ 200 := by omega
          clear hst hrd
          go_wp2_with (first
            | (go_at_call 20; (with_reducible refine BY.out.mono ?_); rintro e' w7 ⟨rfl, HBy⟩; clear t0 t1 t2 hg1; have HB7 := Lib.hid (HBx.out.quiet HBy); have HC7 := Lib.hid HBy; obtain ⟨t0, t1, t2, hg1⟩ := TC.out w7 HBy; clear HBy)
            | (go_at_call 16; (with_reducible refine (unpin_no b s k P 2 I K 7 w7 HB7.out.st.f HST.out (by decide)).mono ?_); rintro e' w6 ⟨rfl, HC6⟩))
          go_roundw
          case rel => exact ⟨t + 1, by omega, by go_num, bel2 (bel2 HX.out HC7.out) HC6⟩
          case measure => simp [intOf]; omega
        · obtain rfl : t = q' := by omega
          have HB2 := Lib.hid (HB.out.quiet HX.out)
          obtain ⟨L, hL⟩ : ∃ L, P.all.length = L := ⟨_, rfl⟩
          rw [hL] at hL64
          have HL := Lib.hid hL
          clear HB hL HX
          go_wp2_with (go_at_call 22; (with_reducible refine (all_s P.all HB2.out.st rfl).mono ?_); rintro e' w9 ⟨p9, c9, rfl, HR9, _, HC9⟩; have HB9 := Lib.hid (HB2.out.quiet HC9.out); rw [HL.out])
          go_loopw [27] (fun u wx => ∃ i : Nat, i ≤ L ∧ u = .int .i64 i ∧ Hid (Below w9.heap.size w9 wx)) (fun v _ => L - (intOf v).toNat)
          case atStart => exact ⟨0, Nat.zero_le _, rfl, Below.refl _ _⟩
          case round =>
            obtain ⟨i, hi, rfl, HY⟩ := hrel
            by_cases hlt4 : i < L
            · have hiL : i < P.all.length := by rw [HL.out]; exact hlt4
              have hrd := HR9.out.rd.below HY.out
              rw [HL.out] at hrd
              obtain ⟨g9, o9, rfl, hg9, t0, t1, t2⟩ := hrd.cell (j := i) hiL
              obtain ⟨I, eI, hI1, hI2⟩ := Po.all_at (List.getElem?_eq_getElem hiL)
              rw [eI] at t0 t1 t2
              have hN := HW.out.listed (by rwa [HW.out.n_eq] at hI1) hI2
              have hgm := HW.out.ok.t.gm I
              have hI3 : I < 64 := by have := HW.out.ok.hi; omega
              have hrg : RgO 2 I (P.t.g I) := ⟨by omega, by omega, by omega, by omega, by omega, by omega⟩
              have hlook0 := (HB9.out.quiet HY.out).n.look hrg
              have hlook : ∀ m, _ := fun m => ((HB9.out.quiet HY.out).quiet (bel_drewN (Below.refl _ _) m)).n.look hrg
              rw [hN] at hlook0
              simp only [hN] at hlook
              unfold okey at hlook0 hlook
              clear hI2
              rcases i with _ | i'
              · simp only [Nat.zero_mul, Nat.add_zero] at t0 t1 t2
                generalize P.t.g I = K at *
                clear hN eI
                go_wp2_with fail
                go_quiet (fail)
                clear hlook hlook0
                go_wp2_with fail
                go_roundw
                case rel => exact ⟨1, by omega, by go_num, bel_drewN HY.out _⟩
                case measure => simp [intOf]; omega
              · obtain ⟨g9', o9', ee, _, s0, s1, s2⟩ := hrd.cell (j := i') (by omega)
                injection ee with ee
                injection ee with ee1 ee2
                subst ee1 ee2
                have hsd := all_sorted (List.getElem?_eq_getElem (show i' < P.all.length by omega)) (List.getElem?_eq_getElem hiL)
                obtain ⟨J, eJ, hJ1, hJ2⟩ := Po.all_at (List.getElem?_eq_getElem (show i' < P.all.length by omega))
                rw [eI, eJ] at hsd
                rw [eJ] at s1
                simp only at hsd s1
                generalize P.t.g I = K at *
                clear hN eI s0 s2 eJ hJ2 hrd
                go_wp2_with fail
                go_quiet (fail)
                clear hlook hlook0
                go_wp2_with fail
                go_roundw
                case rel => exact ⟨i' + 2, by omega, by go_num, bel_drewN HY.out _⟩
                case measure => simp [intOf]; omega
            · obtain rfl : i = L := by omega
              have HB3 := Lib.hid (HB9.out.quiet HY.out)
              go_wp2_with (go_at_call 10; refine (works_ok _).mono ?_; rintro e' w5 ⟨rfl, hb⟩; have HB5 := Lib.hid hb; clear hb)
              go_ret
              exact ⟨rfl, bel2 HB3.out.st.bel HB5.out⟩
end Go.Proofs.Ytjhgckaaaonbiaa
