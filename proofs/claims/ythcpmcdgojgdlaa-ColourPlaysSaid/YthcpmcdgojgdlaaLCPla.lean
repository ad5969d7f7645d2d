/- The walk of the statement ColourPlays: it returns true for all sizes and scripts. -/
import Derived.Test.YthcpmcdgojgdlaaCy
import Derived.Deep.RegionHeld3
import Derived.Deep.CutRange
namespace Go.Proofs.Ythcpmcdgojgdlaa
open Go.RowKit

set_option maxRecDepth 100000 in
theorem plays_works (size : Int) (a : Option Addr) (len cap : Nat) (w : World) (hl : 100 < len) :
    Calls Try.prog 3 #[.int .i64 size, .slice a len cap] w fun e w' => e = .returned (.bool true) ∧ Below w.heap.size w w' := by
  go_enter Try.func3, Try.ntmps3
  go_wp2_with fail
  refine (works_ok _).mono ?_
  rintro e w3 ⟨rfl, hb3⟩
  have HB := Lib.hid hb3
  clear hb3
  go_wp2
  go_ret
  exact ⟨rfl, HB.out⟩
set_option maxRecDepth 100000 in
set_option maxHeartbeats 16000000 in
theorem plays_core (size : Int) (a : Option Addr) (len cap : Nat) (dos : Nat → Nat) (is : Nat → Int) (w : World) (hl : len ≤ 100) (hu : Stps w a len dos is) (_hs0 : -9223372036854775808 ≤ size) (_hs1 : size ≤ 9223372036854775807) :
    Calls Try.prog 3 #[.int .i64 size, .slice a len cap] w fun e w' => e = .returned (.bool true) ∧ Below w.heap.size w w' := by
  have HU := Lib.hid hu
  have HN := Lib.hid (new_o size w)
  have HR := Lib.hid (fun w => rnew_o size w)
  have HSZ := Lib.hid (And.intro _hs0 _hs1)
  clear hu _hs0 _hs1
  go_enter Try.func3, Try.ntmps3
  go_wp2_with fail
  refine HN.out.mono ?_
  rintro e w1 ⟨p1, b1, hb1, rfl, ht1, k1⟩
  have HT1 := Lib.hid (And.intro hb1 (And.intro ht1 k1))
  clear hb1 ht1 k1 HN
  go_wp2_with fail
  refine (HR.out _).mono ?_
  rintro e w2 ⟨r1, c1, d1, hc1, hd1, rfl, hr2, k2⟩
  have hnn := none_o HT1.out.2.1 hr2
  have HS : Hid (Im w w2 p1 r1 b1 c1 d1 (oNew size) (oNew size) none none) :=
    ⟨HT1.out.2.1.below k2, hr2, .inl ⟨rfl, rfl⟩, bel2 HT1.out.2.2 k2, HT1.out.1, Nat.le_trans HT1.out.2.2.size hc1, Nat.le_trans HT1.out.2.2.size hd1⟩
  clear hr2 k2 HT1 HR hc1 hd1
  obtain ⟨o0, ho⟩ : ∃ o, oNew size = o := ⟨_, rfl⟩
  rw [ho] at HS
  clear ho
  generalize oNewE size = E
  have hee : (E != E) = false := by simp
  go_wp2
  clear hnn hee
  go_loopw [5, 7, 9, 10, 44] (fun v5 v7 v9 v10 v44 wr => ∃ (k : Nat) (p r : Option Addr) (b c d : Nat) (o : Option Pt) (q s : Option Addr), k ≤ len ∧ v5 = .pointer p ∧ v7 = .pointer r ∧ v9 = .pointer q ∧ v10 = .pointer s ∧ v44 = .int .i64 k ∧ Hid (Im w wr p r b c d o o q s)) (fun _ _ _ _ ix _ => len - (intOf ix).toNat)
  case atStart => exact ⟨0, _, _, _, _, _, _, _, _, Nat.zero_le _, rfl, rfl, rfl, rfl, rfl, HS.out⟩
  case round =>
    clear HS
    obtain ⟨k, p, r, b, c, d, o, q, s, hk, rfl, rfl, rfl, rfl, rfl, HS⟩ := hrel
    by_cases hlt : k < len
    · obtain ⟨B, off, rfl, hB, hcells⟩ := (HU.out.below HS.out.bel).at_ (by omega)
      obtain ⟨hc0, hc1⟩ := hcells k hlt
      have hbd := HU.out.bd k hlt
      clear hcells
      generalize dos k = D at *
      generalize is k = I at *
      have HM : Hid (Mx w (wr.alloc (.cells #[.int .u8 D, .int .i64 I] 32)) p r b c d o o q s wr.heap.size D I) :=
        ⟨HS.out.quiet (bel_new _ _), Bk.new wr _ _⟩
      have HI := Lib.hid hbd.2
      have hD := hbd.1
      clear hbd
      go_upto_region 14 with fail
      rename_i K3 hK3
      have hK4 : ∀ a w, Hid _ → K3 a w := fun a w h => hK3 a w h.out
      clear hK3 hc0 hc1
      generalize wr.heap.size = X at *
      generalize wr.alloc (.cells #[.int .u8 D, .int .i64 I] 32) = w3 at *
      have z0 : w3.cell? ⟨X, 0, none⟩ = some (.int .u8 D) := HM.out.x.cell 0
      obtain ⟨R, hR⟩ : ∃ R, D % 7 = R := ⟨_, rfl⟩
      have r2 : (D : Int) % 7 = (R : Int) := by omega
      have r1 : (D : Int).tmod 7 = (R : Int) := by rw [Int.tmod_eq_emod_of_nonneg (by omega)]; exact r2
      have hR7 : R < 7 := by omega
      clear hR
      go_wp2_with fail
      unfold Hid
      clear r1 r2 z0
      go_cut [5, 7, 9, 10, 13, 14, 15, 16] from 50 to 111 (fun v5 v7 v9 v10 v13 v14 v15 v16 wx => ∃ (p r : Option Addr) (b c d : Nat) (o : Option Pt) (q s : Option Addr) (E : Int) (B : Bool), v5 = .pointer p ∧ v7 = .pointer r ∧ v9 = .pointer q ∧ v10 = .pointer s ∧ v13 = .int .i64 E ∧ v14 = .int .i64 E ∧ v15 = .bool B ∧ v16 = .bool B ∧ Hid (Mx w wx p r b c d o o q s X D I))
      case first =>
        have hr0 : R = 0 ∨ R = 1 ∨ R = 2 ∨ R = 3 ∨ R = 4 ∨ R = 5 ∨ R = 6 := by omega
        have z1 := HM.out.c1
        rcases hr0 with rfl | rfl | rfl | rfl | rfl | rfl | rfl
        · go_wp2_with (first
            | (go_at_call 12; refine (im_shade_m HM (by rfl) (by rfl) (by rfl) (by rfl)).mono ?_; rintro e s1 ⟨rfl, M1, z2⟩)
            | (go_at_call 13; refine (ir_shade_m M1 (by rfl) (by rfl) (by rfl) (by rfl)).mono ?_; rintro e s2 ⟨rfl, M2, z3⟩))
          go_meet
          exact ⟨p, r, b, c, d, _, q, s, _, _, rfl, rfl, rfl, rfl, rfl, rfl, rfl, rfl, M2.out⟩
        · go_wp2_with (first
            | (go_at_call 12; refine (im_shade_m HM (by rfl) (by rfl) (by rfl) (by rfl)).mono ?_; rintro e s1 ⟨rfl, M1, z2⟩)
            | (go_at_call 13; refine (ir_shade_m M1 (by rfl) (by rfl) (by rfl) (by rfl)).mono ?_; rintro e s2 ⟨rfl, M2, z3⟩))
          go_meet
          exact ⟨p, r, b, c, d, _, q, s, _, _, rfl, rfl, rfl, rfl, rfl, rfl, rfl, rfl, M2.out⟩
        · go_wp2_with fail
          go_region_held3 (fun W => W.cell? ⟨X, 1, none⟩ = some (.int .i64 I)) (first | exact z1 | exact z2 | exact z3)
            (first
            | (go_at_call 14; refine (im_black_m HM (by rfl) (by rfl) (by rfl) (by rfl)).mono ?_; rintro e s1 ⟨rfl, M1, z2⟩)
            | (go_at_call 15; refine (ir_black_m M1 (by rfl) (by rfl) (by rfl) (by rfl)).mono ?_; rintro e s2 ⟨rfl, M2, z3⟩))
          go_wp2
          go_meet
          exact ⟨p, r, b, c, d, _, q, s, _, _, rfl, rfl, rfl, rfl, rfl, rfl, rfl, rfl, M2.out⟩
        · go_wp2_with fail
          go_region_held3 (fun W => W.cell? ⟨X, 1, none⟩ = some (.int .i64 I)) (first | exact z1 | exact z2 | exact z3)
            (first
            | (go_at_call 16; refine (im_born_m HM (by rfl) (by rfl) (by rfl) (by rfl)).mono ?_; rintro e s1 ⟨rfl, M1, z2⟩)
            | (go_at_call 17; refine (ir_born_m M1 (by rfl) (by rfl) (by rfl) (by rfl)).mono ?_; rintro e s2 ⟨rfl, M2, z3⟩))
          go_wp2
          go_meet
          exact ⟨p, r, b, c, d, _, q, s, _, _, rfl, rfl, rfl, rfl, rfl, rfl, rfl, rfl, M2.out⟩
        · go_wp2_with fail
          go_region_held3 (fun W => W.cell? ⟨X, 1, none⟩ = some (.int .i64 I)) (first | exact z1 | exact z2 | exact z3)
            (first
            | (go_at_call 18; refine (im_bleach_m HM (by rfl) (by rfl) (by rfl) (by rfl)).mono ?_; rintro e s1 ⟨rfl, M1, z2⟩)
            | (go_at_call 19; refine (ir_bleach_m M1 (by rfl) (by rfl) (by rfl) (by rfl)).mono ?_; rintro e s2 ⟨rfl, M2, z3⟩))
          go_wp2
          go_meet
          exact ⟨p, r, b, c, d, _, q, s, _, _, rfl, rfl, rfl, rfl, rfl, rfl, rfl, rfl, M2.out⟩
        · go_wp2_with (first
            | (go_at_call 20; refine (im_clear HM.out.m).mono ?_; rintro e s1 ⟨rfl, h, x⟩; have M1 := Lib.hid h; have X1 := Lib.hid (x _ _ HM.out.x); clear h x)
            | (go_at_call 21; refine (ir_clear M1.out).mono ?_; rintro e s2 ⟨rfl, h, x⟩; have M2 := Lib.hid h; have X2 := Lib.hid (x _ _ X1.out); clear h x))
          go_meet
          obtain ⟨d', h⟩ := M2.out
          exact ⟨p, r, b, c, d', _, q, s, 0, false, rfl, rfl, rfl, rfl, rfl, rfl, rfl, rfl, h, X2.out⟩
        · go_wp2_with (first
            | (go_at_call 22; refine (im_copy HM.out.m).mono ?_; rintro e s1 ⟨p', b', rfl, h, x⟩; have M1 := Lib.hid h; have X1 := Lib.hid (x _ _ HM.out.x); clear h x)
            | (go_at_call 23; refine (ir_copy M1.out).mono ?_; rintro e s2 ⟨r', c', d', rfl, h, x⟩; have M2 := Lib.hid h; have X2 := Lib.hid (x _ _ X1.out); clear h x))
          go_meet
          exact ⟨p', r', b', c', d', _, p, r, 0, false, rfl, rfl, rfl, rfl, rfl, rfl, rfl, rfl, M2.out, X2.out⟩
      case rest =>
        obtain ⟨p2, r3, b2, c2, d2, o2, q2, s2, E2, B2, rfl, rfl, rfl, rfl, rfl, rfl, rfl, rfl, HX⟩ := hcut
        have z1 := HX.out.c1
        have he : (E2 != E2) = false := by simp
        have hb : (B2 != B2) = false := by simp
        go_wp2_with (first
          | (go_at_call 24; (with_reducible refine (im_shows2 I HI.out.2 HX1.out.m).mono ?_); rintro e y2 ⟨rfl, h, x⟩; have HX2 := Lib.hid h; clear h x)
          | (go_at_call 24; (with_reducible refine (im_shows I HI.out.2 HX.out.m).mono ?_); rintro e y1 ⟨rfl, h, x⟩; have HX1 : Hid (Mx w y1 p2 r3 b2 c2 d2 o2 o2 q2 s2 X D I) := ⟨h, x _ _ HX.out.x⟩; have z2 := HX1.out.c1; clear h x))
        go_roundw
        case rel => exact ⟨k + 1, _, _, _, _, _, _, _, _, by omega, rfl, rfl, rfl, rfl, by go_num, HX2.out⟩
        case measure => simp [intOf]; omega
    · have hs5 : size < 0 ∨ size = 0 ∨ (0 < size ∧ size < 256) ∨ size = 256 ∨ 256 < size := by omega
      rcases hs5 with h5 | h5 | ⟨h5, h6⟩ | h5 | h5
      · have hsz := HSZ.out
        go_wp2
        clear hsz
        go_loopw [140] (fun v wr => ∃ i : Nat, i ≤ 0 ∧ v = .int .i64 i ∧ Hid (Im w wr p r b c d o o q s)) (fun v _ => 0 - (intOf v).toNat)
        case atStart => exact ⟨0, Nat.zero_le _, rfl, HS.out⟩
        case round =>
          obtain ⟨i, hi, rfl, HV⟩ := hrel
          by_cases hlt2 : i < 0
          · omega
          · go_wp2_with fail
            refine (works_ok _).mono ?_
            rintro e wz ⟨rfl, hb⟩
            have HB := Lib.hid (bel2 HV.out.bel hb)
            clear hb
            go_wp2
            go_ret
            exact ⟨rfl, HB.out⟩
      · subst h5
        have hsz := HSZ.out
        go_wp2
        clear hsz
        go_loopw [140] (fun v wr => ∃ i : Nat, i ≤ 0 ∧ v = .int .i64 i ∧ Hid (Im w wr p r b c d o o q s)) (fun v _ => 0 - (intOf v).toNat)
        case atStart => exact ⟨0, Nat.zero_le _, rfl, HS.out⟩
        case round =>
          obtain ⟨i, hi, rfl, HV⟩ := hrel
          by_cases hlt2 : i < 0
          · omega
          · go_wp2_with fail
            refine (works_ok _).mono ?_
            rintro e wz ⟨rfl, hb⟩
            have HB := Lib.hid (bel2 HV.out.bel hb)
            clear hb
            go_wp2
            go_ret
            exact ⟨rfl, HB.out⟩
      · obtain ⟨N, rfl⟩ : ∃ N : Nat, size = N := ⟨size.toNat, by omega⟩
        have hsz := HSZ.out
        go_wp2
        clear hsz
        go_loopw [140] (fun v wr => ∃ i : Nat, i ≤ N ∧ v = .int .i64 i ∧ Hid (Im w wr p r b c d o o q s)) (fun v _ => N - (intOf v).toNat)
        case atStart => exact ⟨0, Nat.zero_le _, rfl, HS.out⟩
        case round =>
          obtain ⟨i, hi, rfl, HV⟩ := hrel
          by_cases hlt2 : i < N
          · go_wp2_with (first
              | (go_at_call 24; (with_reducible refine (im_shows2 _ (by omega) HV1.out).mono ?_); rintro e y2 ⟨rfl, h, _⟩; have HV2 := Lib.hid h; clear h)
              | (go_at_call 24; (with_reducible refine (im_shows _ (by omega) HV.out).mono ?_); rintro e y1 ⟨rfl, h, _⟩; have HV1 := Lib.hid h; clear h))
            go_roundw
            case rel => exact ⟨i + 1, by omega, by go_num, HV2.out⟩
            case measure => simp [intOf]; omega
          · go_wp2_with fail
            refine (works_ok _).mono ?_
            rintro e wz ⟨rfl, hb⟩
            have HB := Lib.hid (bel2 HV.out.bel hb)
            clear hb
            go_wp2
            go_ret
            exact ⟨rfl, HB.out⟩
      · subst h5
        have hsz := HSZ.out
        go_wp2
        clear hsz
        go_loopw [140] (fun v wr => ∃ i : Nat, i ≤ 256 ∧ v = .int .i64 i ∧ Hid (Im w wr p r b c d o o q s)) (fun v _ => 256 - (intOf v).toNat)
        case atStart => exact ⟨0, Nat.zero_le _, rfl, HS.out⟩
        case round =>
          obtain ⟨i, hi, rfl, HV⟩ := hrel
          by_cases hlt2 : i < 256
          · go_wp2_with (first
              | (go_at_call 24; (with_reducible refine (im_shows2 _ (by omega) HV1.out).mono ?_); rintro e y2 ⟨rfl, h, _⟩; have HV2 := Lib.hid h; clear h)
              | (go_at_call 24; (with_reducible refine (im_shows _ (by omega) HV.out).mono ?_); rintro e y1 ⟨rfl, h, _⟩; have HV1 := Lib.hid h; clear h))
            go_roundw
            case rel => exact ⟨i + 1, by omega, by go_num, HV2.out⟩
            case measure => simp [intOf]; omega
          · go_wp2_with fail
            refine (works_ok _).mono ?_
            rintro e wz ⟨rfl, hb⟩
            have HB := Lib.hid (bel2 HV.out.bel hb)
            clear hb
            go_wp2
            go_ret
            exact ⟨rfl, HB.out⟩
      · have hsz := HSZ.out
        go_wp2
        clear hsz
        go_loopw [140] (fun v wr => ∃ i : Nat, i ≤ 256 ∧ v = .int .i64 i ∧ Hid (Im w wr p r b c d o o q s)) (fun v _ => 256 - (intOf v).toNat)
        case atStart => exact ⟨0, Nat.zero_le _, rfl, HS.out⟩
        case round =>
          obtain ⟨i, hi, rfl, HV⟩ := hrel
          by_cases hlt2 : i < 256
          · go_wp2_with (first
              | (go_at_call 24; (with_reducible refine (im_shows2 _ (by omega) HV1.out).mono ?_); rintro e y2 ⟨rfl, h, _⟩; have HV2 := Lib.hid h; clear h)
              | (go_at_call 24; (with_reducible refine (im_shows _ (by omega) HV.out).mono ?_); rintro e y1 ⟨rfl, h, _⟩; have HV1 := Lib.hid h; clear h))
            go_roundw
            case rel => exact ⟨i + 1, by omega, by go_num, HV2.out⟩
            case measure => simp [intOf]; omega
          · go_wp2_with fail
            refine (works_ok _).mono ?_
            rintro e wz ⟨rfl, hb⟩
            have HB := Lib.hid (bel2 HV.out.bel hb)
            clear hb
            go_wp2
            go_ret
            exact ⟨rfl, HB.out⟩
theorem cPla_walk (size : Int) (a : Option Addr) (len cap : Nat) (dos : Nat → Nat) (is : Nat → Int) (w : World) (h0 : -9223372036854775808 ≤ size) (h1 : size ≤ 9223372036854775807) (hu : Stps w a len dos is) :
    Calls Try.prog 3 #[.int .i64 size, .slice a len cap] w fun e w' => e = .returned (.bool true) ∧ Below w.heap.size w w' := by
  by_cases hl : 100 < len
  · exact plays_works size a len cap w hl
  · exact plays_core size a len cap dos is w (by omega) hu h0 h1
end Go.Proofs.Ythcpmcdgojgdlaa
