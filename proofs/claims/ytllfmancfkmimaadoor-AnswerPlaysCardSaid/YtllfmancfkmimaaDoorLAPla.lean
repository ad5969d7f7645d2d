/- The walk of the statement AnswerPlays: it returns true for all scripts. -/
import Derived.Test.YtllfmancfkmimaaDoorAq
namespace Go.Proofs.YtllfmancfkmimaaDoor
open Go.RowKit

/-- The pointers to the sources that were copied. -/
def oP (o : Option (Nat × Nat × List Int)) : Option Addr := o.map fun x => ⟨x.1, 0, none⟩
def oR (o : Option (Nat × Nat × List Int)) : Option Addr := o.map fun x => ⟨x.2.1, 0, none⟩

set_option maxRecDepth 100000 in
set_option maxHeartbeats 16000000 in
theorem aPla_core (a : Option Addr) (len cap : Nat) (dos ns : Nat → Int) (ts : Nat → ByteArray) (w : World) (hl : len ≤ 60) (hu : Steps w a len dos ns ts) (he : Env w) :
    Calls Tryd.prog 4 #[.slice a len cap] w fun e w' => e = .returned (.bool true) ∧ Below w.heap.size w w' := by
  have HU := Lib.hid hu
  have HE := Lib.hid he
  clear hu he
  go_enter Tryd.func4, Tryd.ntmps4
  go_wp2_with fail
  refine (new_ok _).mono ?_
  rintro e w1 ⟨rfl, h1, hb1⟩
  have H1 := Lib.hid h1
  have HB1 := Lib.hid hb1
  clear h1 hb1
  go_wp2_with fail
  refine (rnew_ok _).mono ?_
  rintro e w2 ⟨rfl, h2, hb2⟩
  have HS : Hid (PSt w w2 w.heap.size w1.heap.size [] [] none) := ⟨HE.out, H1.out.below hb2, h2, bel2 HB1.out hb2, Nat.le_refl _, HB1.out.size, fun x e => by cases e⟩
  obtain ⟨p1, ep⟩ : ∃ p, w.heap.size = p := ⟨_, rfl⟩
  obtain ⟨r1, er⟩ : ∃ r, w1.heap.size = r := ⟨_, rfl⟩
  rw [er] at HS ⊢
  have HS1 : Hid (PSt w w2 p1 r1 [] [] none) := by rw [← ep]; exact HS.out
  rw [ep]
  have HEP := Lib.hid ep
  clear h2 hb2 H1 HB1 HS ep er
  go_wp2
  go_loopw [3, 4, 5, 6, 7] (fun sv rv ov tv ix wr => ∃ (k : Nat) (p2 r2 : Nat) (L : List Int) (o : Option (Nat × Nat × List Int)), k ≤ len ∧ sv = .pointer (some ⟨p2, 0, none⟩) ∧ rv = .pointer (some ⟨r2, 0, none⟩) ∧ ov = .pointer (oP o) ∧ tv = .pointer (oR o) ∧ ix = .int .i64 k ∧ Hid (PSt w wr p2 r2 L L o)) (fun _ _ _ _ ix _ => len - (intOf ix).toNat)
  case atStart => exact ⟨0, p1, r1, [], none, Nat.zero_le _, rfl, rfl, rfl, rfl, rfl, HS1.out⟩
  case round =>
    clear HS1
    obtain ⟨k, p2, r2, L, o, hk, rfl, rfl, rfl, rfl, rfl, HS⟩ := hrel
    by_cases hlt : k < len
    · obtain ⟨B, off, rfl, hB, hcells⟩ := (HU.out.below HS.out.bel).at_ (by omega)
      obtain ⟨hc0, hc1, hc2⟩ := hcells k hlt
      have hT := HU.out.bd k hlt
      generalize dos k = D at *
      generalize ns k = N at *
      generalize ts k = T at *
      have HM : Hid (SSt w (wr.alloc (.cells #[.int .i64 D, .int .i64 N, .string T] 37)) p2 r2 L L o wr.heap.size D N T) := ⟨HS.out.below ((Below.refl _ wr).alloc (Nat.le_refl _) _), Bk.new wr _ _⟩
      clear hcells
      by_cases hlong : T.size ≤ 2500
      · by_cases hD0 : D = 0
        · subst hD0
          go_wp2
          obtain ⟨wA, hwA⟩ : ∃ W, wr.alloc (.cells #[.int .i64 0, .int .i64 N, .string T] 37) = W := ⟨_, rfl⟩
          obtain ⟨xb, hxb⟩ : ∃ x, wr.heap.size = x := ⟨_, rfl⟩
          rw [hwA, hxb] at HM
          rw [hwA, hxb]
          clear hwA hxb hc0 hc1 hc2
          go_loopw [9] (fun i wr => ∃ (j : Nat) (L : List Int), j ≤ 4 ∧ i = .int .i64 j ∧ Hid (SSt w wr p2 r2 L L o xb 0 N T)) (fun i _ => 4 - (intOf i).toNat)
          case atStart => exact ⟨0, L, Nat.zero_le _, rfl, HM.out⟩
          case round =>
            clear HM
            obtain ⟨j, L', hj, rfl, HM⟩ := hrel
            have hcn := HM.out.cn
            by_cases hj1 : j = 0
            · subst hj1
              obtain ⟨E, hE⟩ : ∃ E, aE L' T.data.toList = E := ⟨_, rfl⟩
              obtain ⟨L2, hL2⟩ : ∃ L2, aL L' T.data.toList = L2 := ⟨_, rfl⟩
              have HEL := Lib.hid (And.intro hE hL2)
              have hEE : ((E : Int) != (E : Int)) = false := by simp
              clear hE hL2
              have hz0 := HM.out.ct
              go_wp2
              go_region_held3 (fun W => W.cell? ⟨xb, 2, none⟩ = some (.string T)) (first | exact hz0 | exact hz1 | exact hz2)
                (first
                | (go_at_call 19; refine ((HM.out.same (by rfl) (by rfl) (by rfl) (by rfl)).add_p T (by omega) HEL.out.1 HEL.out.2).mono ?_; rintro e s1 ⟨rfl, k1⟩; have HM1 := Lib.hid k1; have hz1 := k1.ct; clear k1)
                | (go_at_call 20; refine ((HM1.out.same (by rfl) (by rfl) (by rfl) (by rfl)).add_r T (by omega) HEL.out.1 HEL.out.2).mono ?_; rintro e s2 ⟨rfl, k2⟩; have HM2 := Lib.hid k2; have hz2 := k2.ct; clear k2))
              go_wp2
              go_roundw
              case rel => exact ⟨1, _, by omega, by go_num, HM2.out⟩
              case measure => simp [intOf]
            have hg1 : decide ((j : Int) < 1) = false := decide_eq_false (by omega)
            have hg1n : decide (j < 1) = false := decide_eq_false (by omega)
            by_cases hjN : (j : Int) < N
            · by_cases hj4 : j < 4
              · skip
                obtain ⟨E, hE⟩ : ∃ E, aE L' T.data.toList = E := ⟨_, rfl⟩
                obtain ⟨L2, hL2⟩ : ∃ L2, aL L' T.data.toList = L2 := ⟨_, rfl⟩
                have HEL := Lib.hid (And.intro hE hL2)
                have hEE : ((E : Int) != (E : Int)) = false := by simp
                clear hE hL2
                have hz0 := HM.out.ct
                go_wp2
                go_region_held3 (fun W => W.cell? ⟨xb, 2, none⟩ = some (.string T)) (first | exact hz0 | exact hz1 | exact hz2)
                  (first
                  | (go_at_call 19; refine ((HM.out.same (by rfl) (by rfl) (by rfl) (by rfl)).add_p T (by omega) HEL.out.1 HEL.out.2).mono ?_; rintro e s1 ⟨rfl, k1⟩; have HM1 := Lib.hid k1; have hz1 := k1.ct; clear k1)
                  | (go_at_call 20; refine ((HM1.out.same (by rfl) (by rfl) (by rfl) (by rfl)).add_r T (by omega) HEL.out.1 HEL.out.2).mono ?_; rintro e s2 ⟨rfl, k2⟩; have HM2 := Lib.hid k2; have hz2 := k2.ct; clear k2))
                go_wp2
                go_roundw
                case rel => exact ⟨j + 1, _, by omega, by go_num, HM2.out⟩
                case measure => simp [intOf]; omega
              · obtain rfl : j = 4 := by omega
                go_wp2_with fail
                refine (HM.out.m.left_p).mono ?_
                rintro e w' ⟨rfl, rfl⟩
                go_wp2_with fail
                refine (HM.out.m.left_r).mono ?_
                rintro e w' ⟨rfl, rfl⟩
                have hll : ((L'.length : Int) != (L'.length : Int)) = false := by simp
                obtain ⟨K7, hK7⟩ : ∃ K, L'.take (7 : Int).toNat = K := ⟨_, rfl⟩
                have HK7 := Lib.hid hK7
                clear hK7
                go_wp2_with fail
                refine (HM.out.m.peek_p 7 HK7.out).mono ?_
                rintro e v1 ⟨a1, c1, rfl, q1, q2, _⟩
                have Q1 := Lib.hid q1
                have Q2 := Lib.hid q2
                clear q1 q2
                go_wp2_with fail
                refine (Q2.out.peek_r 7 HK7.out).mono ?_
                rintro e v2 ⟨a2, c2, rfl, q3, q4, q5⟩
                have Q3 := Lib.hid q3
                have Q4 := Lib.hid q4
                have Q5 := Lib.hid (Q1.out.below q5)
                clear q3 q4 q5 Q1 Q2
                go_wp2_with fail
                refine (same_yes _ _ _ _ _ _ _ _ (Rd.of_sl Q5.out) (Rd.of_sl Q3.out)).mono ?_
                rintro e v3 ⟨rfl, q, rfl⟩
                have Q6 := Lib.hid (Q4.out.below (bel_drewN (Below.refl _ _) q))
                obtain ⟨v4, hv4⟩ : ∃ v4, v2.drewN q = v4 := ⟨_, rfl⟩
                rw [hv4] at Q6 ⊢
                clear hv4 Q3 Q4 Q5 hll
                go_wp2
                go_roundw
                case rel => exact ⟨k + 1, p2, r2, L', o, by omega, rfl, rfl, rfl, rfl, by go_num, Q6.out⟩
                case measure => simp [intOf]; omega
            · have hjN' : decide ((j : Int) < N) = false := decide_eq_false hjN
              go_wp2_with fail
              refine (HM.out.m.left_p).mono ?_
              rintro e w' ⟨rfl, rfl⟩
              go_wp2_with fail
              refine (HM.out.m.left_r).mono ?_
              rintro e w' ⟨rfl, rfl⟩
              have hll : ((L'.length : Int) != (L'.length : Int)) = false := by simp
              obtain ⟨K7, hK7⟩ : ∃ K, L'.take (7 : Int).toNat = K := ⟨_, rfl⟩
              have HK7 := Lib.hid hK7
              clear hK7
              go_wp2_with fail
              refine (HM.out.m.peek_p 7 HK7.out).mono ?_
              rintro e v1 ⟨a1, c1, rfl, q1, q2, _⟩
              have Q1 := Lib.hid q1
              have Q2 := Lib.hid q2
              clear q1 q2
              go_wp2_with fail
              refine (Q2.out.peek_r 7 HK7.out).mono ?_
              rintro e v2 ⟨a2, c2, rfl, q3, q4, q5⟩
              have Q3 := Lib.hid q3
              have Q4 := Lib.hid q4
              have Q5 := Lib.hid (Q1.out.below q5)
              clear q3 q4 q5 Q1 Q2
              go_wp2_with fail
              refine (same_yes _ _ _ _ _ _ _ _ (Rd.of_sl Q5.out) (Rd.of_sl Q3.out)).mono ?_
              rintro e v3 ⟨rfl, q, rfl⟩
              have Q6 := Lib.hid (Q4.out.below (bel_drewN (Below.refl _ _) q))
              obtain ⟨v4, hv4⟩ : ∃ v4, v2.drewN q = v4 := ⟨_, rfl⟩
              rw [hv4] at Q6 ⊢
              clear hv4 Q3 Q4 Q5 hll
              go_wp2
              go_roundw
              case rel => exact ⟨k + 1, p2, r2, L', o, by omega, rfl, rfl, rfl, rfl, by go_num, Q6.out⟩
              case measure => simp [intOf]; omega
        by_cases hD1 : D = 1
        · subst hD1
          go_wp2
          obtain ⟨wA, hwA⟩ : ∃ W, wr.alloc (.cells #[.int .i64 1, .int .i64 N, .string T] 37) = W := ⟨_, rfl⟩
          obtain ⟨xb, hxb⟩ : ∃ x, wr.heap.size = x := ⟨_, rfl⟩
          rw [hwA, hxb] at HM
          rw [hwA, hxb]
          clear hwA hxb hc0 hc1 hc2
          go_loopw [10] (fun i wr => ∃ (j : Nat) (L : List Int), j ≤ 2100 ∧ i = .int .i64 j ∧ Hid (SSt w wr p2 r2 L L o xb 1 N T)) (fun i _ => 2100 - (intOf i).toNat)
          case atStart => exact ⟨0, L, Nat.zero_le _, rfl, HM.out⟩
          case round =>
            clear HM
            obtain ⟨j, L', hj, rfl, HM⟩ := hrel
            have hcn := HM.out.cn
            by_cases hj1 : j = 0
            · subst hj1
              obtain ⟨y, hy⟩ : ∃ y, L'.headD 1 = y := ⟨_, rfl⟩
              have HY := Lib.hid hy
              have hyy : (y != y) = false := by simp
              clear hy
              go_wp2_with fail
              refine (HM.out.next_p HY.out rfl).mono ?_
              rintro e s1 ⟨rfl, k1⟩
              have HM1 := Lib.hid k1
              clear k1
              go_wp2_with fail
              refine (HM1.out.next_r HY.out rfl).mono ?_
              rintro e s2 ⟨rfl, k2⟩
              have HM2 := Lib.hid k2
              clear k2
              go_wp2
              go_roundw
              case rel => exact ⟨1, _, by omega, by go_num, HM2.out⟩
              case measure => simp [intOf]
            have hg1 : decide ((j : Int) < 1) = false := decide_eq_false (by omega)
            have hg1n : decide (j < 1) = false := decide_eq_false (by omega)
            by_cases hjN : (j : Int) < N
            · by_cases hj4 : j < 2100
              · skip
                obtain ⟨y, hy⟩ : ∃ y, L'.headD 1 = y := ⟨_, rfl⟩
                have HY := Lib.hid hy
                have hyy : (y != y) = false := by simp
                clear hy
                go_wp2_with fail
                refine (HM.out.next_p HY.out rfl).mono ?_
                rintro e s1 ⟨rfl, k1⟩
                have HM1 := Lib.hid k1
                clear k1
                go_wp2_with fail
                refine (HM1.out.next_r HY.out rfl).mono ?_
                rintro e s2 ⟨rfl, k2⟩
                have HM2 := Lib.hid k2
                clear k2
                go_wp2
                go_roundw
                case rel => exact ⟨j + 1, _, by omega, by go_num, HM2.out⟩
                case measure => simp [intOf]; omega
              · obtain rfl : j = 2100 := by omega
                go_wp2_with fail
                refine (HM.out.m.left_p).mono ?_
                rintro e w' ⟨rfl, rfl⟩
                go_wp2_with fail
                refine (HM.out.m.left_r).mono ?_
                rintro e w' ⟨rfl, rfl⟩
                have hll : ((L'.length : Int) != (L'.length : Int)) = false := by simp
                obtain ⟨K7, hK7⟩ : ∃ K, L'.take (7 : Int).toNat = K := ⟨_, rfl⟩
                have HK7 := Lib.hid hK7
                clear hK7
                go_wp2_with fail
                refine (HM.out.m.peek_p 7 HK7.out).mono ?_
                rintro e v1 ⟨a1, c1, rfl, q1, q2, _⟩
                have Q1 := Lib.hid q1
                have Q2 := Lib.hid q2
                clear q1 q2
                go_wp2_with fail
                refine (Q2.out.peek_r 7 HK7.out).mono ?_
                rintro e v2 ⟨a2, c2, rfl, q3, q4, q5⟩
                have Q3 := Lib.hid q3
                have Q4 := Lib.hid q4
                have Q5 := Lib.hid (Q1.out.below q5)
                clear q3 q4 q5 Q1 Q2
                go_wp2_with fail
                refine (same_yes _ _ _ _ _ _ _ _ (Rd.of_sl Q5.out) (Rd.of_sl Q3.out)).mono ?_
                rintro e v3 ⟨rfl, q, rfl⟩
                have Q6 := Lib.hid (Q4.out.below (bel_drewN (Below.refl _ _) q))
                obtain ⟨v4, hv4⟩ : ∃ v4, v2.drewN q = v4 := ⟨_, rfl⟩
                rw [hv4] at Q6 ⊢
                clear hv4 Q3 Q4 Q5 hll
                go_wp2
                go_roundw
                case rel => exact ⟨k + 1, p2, r2, L', o, by omega, rfl, rfl, rfl, rfl, by go_num, Q6.out⟩
                case measure => simp [intOf]; omega
            · have hjN' : decide ((j : Int) < N) = false := decide_eq_false hjN
              go_wp2_with fail
              refine (HM.out.m.left_p).mono ?_
              rintro e w' ⟨rfl, rfl⟩
              go_wp2_with fail
              refine (HM.out.m.left_r).mono ?_
              rintro e w' ⟨rfl, rfl⟩
              have hll : ((L'.length : Int) != (L'.length : Int)) = false := by simp
              obtain ⟨K7, hK7⟩ : ∃ K, L'.take (7 : Int).toNat = K := ⟨_, rfl⟩
              have HK7 := Lib.hid hK7
              clear hK7
              go_wp2_with fail
              refine (HM.out.m.peek_p 7 HK7.out).mono ?_
              rintro e v1 ⟨a1, c1, rfl, q1, q2, _⟩
              have Q1 := Lib.hid q1
              have Q2 := Lib.hid q2
              clear q1 q2
              go_wp2_with fail
              refine (Q2.out.peek_r 7 HK7.out).mono ?_
              rintro e v2 ⟨a2, c2, rfl, q3, q4, q5⟩
              have Q3 := Lib.hid q3
              have Q4 := Lib.hid q4
              have Q5 := Lib.hid (Q1.out.below q5)
              clear q3 q4 q5 Q1 Q2
              go_wp2_with fail
              refine (same_yes _ _ _ _ _ _ _ _ (Rd.of_sl Q5.out) (Rd.of_sl Q3.out)).mono ?_
              rintro e v3 ⟨rfl, q, rfl⟩
              have Q6 := Lib.hid (Q4.out.below (bel_drewN (Below.refl _ _) q))
              obtain ⟨v4, hv4⟩ : ∃ v4, v2.drewN q = v4 := ⟨_, rfl⟩
              rw [hv4] at Q6 ⊢
              clear hv4 Q3 Q4 Q5 hll
              go_wp2
              go_roundw
              case rel => exact ⟨k + 1, p2, r2, L', o, by omega, rfl, rfl, rfl, rfl, by go_num, Q6.out⟩
              case measure => simp [intOf]; omega
        by_cases hD2 : D = 2
        · subst hD2
          go_wp2
          obtain ⟨wA, hwA⟩ : ∃ W, wr.alloc (.cells #[.int .i64 2, .int .i64 N, .string T] 37) = W := ⟨_, rfl⟩
          obtain ⟨xb, hxb⟩ : ∃ x, wr.heap.size = x := ⟨_, rfl⟩
          rw [hwA, hxb] at HM
          rw [hwA, hxb]
          clear hwA hxb hc0 hc1 hc2
          obtain ⟨K, hK⟩ : ∃ K, L.take N.toNat = K := ⟨_, rfl⟩
          have HK := Lib.hid hK
          clear hK
          have hz0 := HM.out.cn
          go_region_held3 (fun W => W.cell? ⟨xb, 1, none⟩ = some (.int .i64 N)) (first | exact hz0 | exact hz1 | exact hz2)
            (first
            | (go_at_call 23; refine ((HM.out.same (by rfl) (by rfl) (by rfl) (by rfl)).m.peek_p N HK.out).mono ?_; rintro e s1 ⟨a1, c1, rfl, q1, q2, q5⟩; have HM1 := Lib.hid ((HM.out.same (by rfl) (by rfl) (by rfl) (by rfl)).below q5); have Q1 := Lib.hid q1; have hz1 := HM1.out.cn; clear q1 q2 q5)
            | (go_at_call 24; refine ((HM1.out.same (by rfl) (by rfl) (by rfl) (by rfl)).m.peek_r N HK.out).mono ?_; rintro e s2 ⟨a2, c2, rfl, q1, q2, q5⟩; have HM2 := Lib.hid ((HM1.out.same (by rfl) (by rfl) (by rfl) (by rfl)).below q5); have Q2 := Lib.hid q1; have Q3 := Lib.hid ((Q1.out.same (fun _ _ _ => rfl)).below q5); have hz2 := HM2.out.cn; clear q1 q2 q5)
            | (go_at_call 16; refine (same_yes _ _ _ _ _ _ K _ (Rd.of_sl (Q3.out.same (fun _ _ _ => rfl))) (Rd.of_sl (Q2.out.same (fun _ _ _ => rfl)))).mono ?_; rintro e s3 ⟨rfl, q, rfl⟩))
          go_wp2_with fail
          refine ((HM2.out.same (by rfl) (by rfl) (by rfl) (by rfl)).m.left_p).mono ?_
          rintro e w' ⟨rfl, rfl⟩
          go_wp2_with fail
          refine ((HM2.out.same (by rfl) (by rfl) (by rfl) (by rfl)).m.left_r).mono ?_
          rintro e w' ⟨rfl, rfl⟩
          have hll : ((L.length : Int) != (L.length : Int)) = false := by simp
          obtain ⟨K7, hK7⟩ : ∃ K, L.take (7 : Int).toNat = K := ⟨_, rfl⟩
          have HK7 := Lib.hid hK7
          clear hK7
          go_wp2_with fail
          refine ((HM2.out.same (by rfl) (by rfl) (by rfl) (by rfl)).m.peek_p 7 HK7.out).mono ?_
          rintro e v1 ⟨a1, c1, rfl, q1, q2, _⟩
          have Q1 := Lib.hid q1
          have Q2 := Lib.hid q2
          clear q1 q2
          go_wp2_with fail
          refine (Q2.out.peek_r 7 HK7.out).mono ?_
          rintro e v2 ⟨a2, c2, rfl, q3, q4, q5⟩
          have Q3 := Lib.hid q3
          have Q4 := Lib.hid q4
          have Q5 := Lib.hid (Q1.out.below q5)
          clear q3 q4 q5 Q1 Q2
          go_wp2_with fail
          refine (same_yes _ _ _ _ _ _ _ _ (Rd.of_sl Q5.out) (Rd.of_sl Q3.out)).mono ?_
          rintro e v3 ⟨rfl, q, rfl⟩
          have Q6 := Lib.hid (Q4.out.below (bel_drewN (Below.refl _ _) q))
          obtain ⟨v4, hv4⟩ : ∃ v4, v2.drewN q = v4 := ⟨_, rfl⟩
          rw [hv4] at Q6 ⊢
          clear hv4 Q3 Q4 Q5 hll
          go_wp2
          go_roundw
          case rel => exact ⟨k + 1, p2, r2, L, o, by omega, rfl, rfl, rfl, rfl, by go_num, Q6.out⟩
          case measure => simp [intOf]; omega
        by_cases hD3 : D = 3
        · subst hD3
          go_wp2_with fail
          refine (HM.out.m.copy_p).mono ?_
          rintro e s1 ⟨p3, rfl, h3, h4, h5, h6⟩
          have H3 := Lib.hid h3
          have HLT := Lib.hid (Nat.lt_of_lt_of_le HM.out.m.s.lt h4)
          have H5 := Lib.hid h5
          clear h3 h4 h5 h6 HM hc0 hc1 hc2
          go_wp2_with fail
          refine (H5.out.copy_r H3.out HLT.out).mono ?_
          rintro e s2 ⟨r3, rfl, h7, _⟩
          have HC := Lib.hid h7
          clear h7 H3 H5 HLT
          go_wp2_with fail
          refine (HC.out.left_p).mono ?_
          rintro e w' ⟨rfl, rfl⟩
          go_wp2_with fail
          refine (HC.out.left_r).mono ?_
          rintro e w' ⟨rfl, rfl⟩
          have hll : ((L.length : Int) != (L.length : Int)) = false := by simp
          obtain ⟨K7, hK7⟩ : ∃ K, L.take (7 : Int).toNat = K := ⟨_, rfl⟩
          have HK7 := Lib.hid hK7
          clear hK7
          go_wp2_with fail
          refine (HC.out.peek_p 7 HK7.out).mono ?_
          rintro e v1 ⟨a1, c1, rfl, q1, q2, _⟩
          have Q1 := Lib.hid q1
          have Q2 := Lib.hid q2
          clear q1 q2
          go_wp2_with fail
          refine (Q2.out.peek_r 7 HK7.out).mono ?_
          rintro e v2 ⟨a2, c2, rfl, q3, q4, q5⟩
          have Q3 := Lib.hid q3
          have Q4 := Lib.hid q4
          have Q5 := Lib.hid (Q1.out.below q5)
          clear q3 q4 q5 Q1 Q2
          go_wp2_with fail
          refine (same_yes _ _ _ _ _ _ _ _ (Rd.of_sl Q5.out) (Rd.of_sl Q3.out)).mono ?_
          rintro e v3 ⟨rfl, q, rfl⟩
          have Q6 := Lib.hid (Q4.out.below (bel_drewN (Below.refl _ _) q))
          obtain ⟨v4, hv4⟩ : ∃ v4, v2.drewN q = v4 := ⟨_, rfl⟩
          rw [hv4] at Q6 ⊢
          clear hv4 Q3 Q4 Q5 hll
          go_wp2
          go_roundw
          case rel => exact ⟨k + 1, p3, r3, L, some (p2, r2, L), by omega, rfl, rfl, rfl, rfl, by go_num, Q6.out⟩
          case measure => simp [intOf]; omega
        have hd0 : (D == 0) = false := by simpa using hD0
        have hd1 : (D == 1) = false := by simpa using hD1
        have hd2 : (D == 2) = false := by simpa using hD2
        have hd3 : (D == 3) = false := by simpa using hD3
        go_wp2_with fail
        refine (HM.out.m.left_p).mono ?_
        rintro e w' ⟨rfl, rfl⟩
        go_wp2_with fail
        refine (HM.out.m.left_r).mono ?_
        rintro e w' ⟨rfl, rfl⟩
        have hll : ((L.length : Int) != (L.length : Int)) = false := by simp
        obtain ⟨K7, hK7⟩ : ∃ K, L.take (7 : Int).toNat = K := ⟨_, rfl⟩
        have HK7 := Lib.hid hK7
        clear hK7
        go_wp2_with fail
        refine (HM.out.m.peek_p 7 HK7.out).mono ?_
        rintro e v1 ⟨a1, c1, rfl, q1, q2, _⟩
        have Q1 := Lib.hid q1
        have Q2 := Lib.hid q2
        clear q1 q2
        go_wp2_with fail
        refine (Q2.out.peek_r 7 HK7.out).mono ?_
        rintro e v2 ⟨a2, c2, rfl, q3, q4, q5⟩
        have Q3 := Lib.hid q3
        have Q4 := Lib.hid q4
        have Q5 := Lib.hid (Q1.out.below q5)
        clear q3 q4 q5 Q1 Q2
        go_wp2_with fail
        refine (same_yes _ _ _ _ _ _ _ _ (Rd.of_sl Q5.out) (Rd.of_sl Q3.out)).mono ?_
        rintro e v3 ⟨rfl, q, rfl⟩
        have Q6 := Lib.hid (Q4.out.below (bel_drewN (Below.refl _ _) q))
        obtain ⟨v4, hv4⟩ : ∃ v4, v2.drewN q = v4 := ⟨_, rfl⟩
        rw [hv4] at Q6 ⊢
        clear hv4 Q3 Q4 Q5 hll
        go_wp2
        go_roundw
        case rel => exact ⟨k + 1, p2, r2, L, o, by omega, rfl, rfl, rfl, rfl, by go_num, Q6.out⟩
        case measure => simp [intOf]; omega
      · go_wp2_with fail
        refine (works_ok _ HM.out.m.e).mono ?_
        rintro e w3 ⟨rfl, hb3⟩
        go_wp2
        go_ret
        exact ⟨rfl, bel2 HM.out.m.bel hb3⟩
    · obtain rfl : k = len := by omega
      cases o with
      | none =>
        have e1 : oP none = none := rfl
        have e2 : oR none = none := rfl
        rw [e1, e2]
        go_wp2_with fail
        refine (works_ok _ HS.out.e).mono ?_
        rintro e w3 ⟨rfl, hb3⟩
        go_wp2
        go_ret
        exact ⟨rfl, bel2 HS.out.bel hb3⟩
      | some y =>
        obtain ⟨p4, r4, L4⟩ := y
        have e1 : oP (some (p4, r4, L4)) = some ⟨p4, 0, none⟩ := rfl
        have e2 : oR (some (p4, r4, L4)) = some ⟨r4, 0, none⟩ := rfl
        rw [e1, e2]
        have HW := Lib.hid HS.out.swap
        clear HS e1 e2
        go_wp2_with fail
        refine (HW.out.left_p).mono ?_
        rintro e w' ⟨rfl, rfl⟩
        go_wp2_with fail
        refine (HW.out.left_r).mono ?_
        rintro e w' ⟨rfl, rfl⟩
        have hll : ((L4.length : Int) != (L4.length : Int)) = false := by simp
        obtain ⟨K7, hK7⟩ : ∃ K, L4.take (3000 : Int).toNat = K := ⟨_, rfl⟩
        have HK7 := Lib.hid hK7
        clear hK7
        go_wp2_with fail
        refine (HW.out.peek_p 3000 HK7.out).mono ?_
        rintro e v1 ⟨a1, c1, rfl, q1, q2, _⟩
        have Q1 := Lib.hid q1
        have Q2 := Lib.hid q2
        clear q1 q2
        go_wp2_with fail
        refine (Q2.out.peek_r 3000 HK7.out).mono ?_
        rintro e v2 ⟨a2, c2, rfl, q3, q4, q5⟩
        have Q3 := Lib.hid q3
        have Q4 := Lib.hid q4
        have Q5 := Lib.hid (Q1.out.below q5)
        clear q3 q4 q5 Q1 Q2
        go_wp2_with fail
        refine (same_yes _ _ _ _ _ _ _ _ (Rd.of_sl Q5.out) (Rd.of_sl Q3.out)).mono ?_
        rintro e v3 ⟨rfl, q, rfl⟩
        have Q6 := Lib.hid (Q4.out.below (bel_drewN (Below.refl _ _) q))
        obtain ⟨v4, hv4⟩ : ∃ v4, v2.drewN q = v4 := ⟨_, rfl⟩
        rw [hv4] at Q6 ⊢
        clear hv4 Q3 Q4 Q5 hll
        go_wp2_with fail
        refine (works_ok _ Q6.out.e).mono ?_
        rintro e w3 ⟨rfl, hb3⟩
        go_wp2
        go_ret
        exact ⟨rfl, bel2 Q6.out.bel hb3⟩
set_option maxRecDepth 100000 in
theorem aPla_long (a : Option Addr) (n c : Nat) (w : World) (hl : 60 < n) (he : Env w) :
    Calls Tryd.prog 4 #[.slice a n c] w fun e w' => e = .returned (.bool true) ∧ Below w.heap.size w w' := by
  have HE := Lib.hid he
  clear he
  go_enter Tryd.func4, Tryd.ntmps4
  go_wp2_with fail
  refine (works_ok _ HE.out).mono ?_
  rintro e w3 ⟨rfl, hb3⟩
  go_wp2
  go_ret
  exact ⟨rfl, hb3⟩
theorem aPla_walk (a : Option Addr) (len cap : Nat) (dos ns : Nat → Int) (ts : Nat → ByteArray) (w : World) (hu : Steps w a len dos ns ts) (he : Env w) :
    Calls Tryd.prog 4 #[.slice a len cap] w fun e w' => e = .returned (.bool true) ∧ Below w.heap.size w w' := by
  by_cases h : len ≤ 60
  · exact aPla_core a len cap dos ns ts w h hu he
  · exact aPla_long a len cap w (by omega) he
end Go.Proofs.YtllfmancfkmimaaDoor
