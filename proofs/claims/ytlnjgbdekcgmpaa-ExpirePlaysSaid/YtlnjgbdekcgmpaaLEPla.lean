/- The walk of the statement ExpirePlays: it returns true for all scripts and ids. -/
import Derived.Test.YtlnjgbdekcgmpaaEo
import Derived.Test.YtlnjgbdekcgmpaaEy
import Derived.OwnWalk
import Derived.Deep.RegionHeld3
namespace Go.Proofs.Ytlnjgbdekcgmpaa
open Go.RowKit

theorem quiet_drewN {w0 w w' : World} {b r : Nat} {L M : List En} {X : Nat} {cs : Array Value} (h : PX w0 w b r L M X cs) (hq : ∃ q, w' = w.drewN q) : PX w0 w' b r L M X cs := by
  obtain ⟨q, rfl⟩ := hq
  exact h.quiet (bel_drewN (Below.refl _ _) q)
theorem bel_some {w0 w w' : World} (h : Below w0.heap.size w0 w) (hq : ∃ q, w' = w.drewN q) : Below w0.heap.size w0 w' := by
  obtain ⟨q, rfl⟩ := hq
  exact bel_drewN h q
set_option maxRecDepth 1000000 in
set_option maxHeartbeats 16000000 in
theorem plays_core (a : Option Addr) (len cap : Nat) (dos is ts : Nat → Int) (ask : Int) (w : World) (ha : I64 ask) (hl : len ≤ 150 ∨ (257 ≤ len ∧ len ≤ 261)) (hu : Steps w a len dos is ts) :
    Calls Try.prog 3 #[.slice a len cap, .int .i64 ask] w fun e w' => e = .returned (.bool true) ∧ Below w.heap.size w w' := by
  have HU := Lib.hid hu
  have HA := Lib.hid ha
  have hlen : len ≤ 261 := by omega
  have hd2 : decide ((261 : Int) < (len : Int)) = false := by simp; omega
  have HL := Lib.hid hl
  have HW : Hid (∀ W, Calls Try.prog 11 #[] W fun e w' => e = .returned (.bool true) ∧ Below W.heap.size W w') := works_ok
  clear hu ha hl
  go_enter Try.func3, Try.ntmps3
  by_cases h150 : 150 < len
  · have hx1 : decide ((150 : Int) < (len : Int)) = true := by simp; omega
    have hx2 : decide ((len : Int) ≤ 256) = false := by have := HL.out; simp; omega
    go_wp2_with fail
    refine (own_made w w (Below.refl _ _)).mono ?_
    rintro e w1 ⟨b0, rfl, ho⟩
    have HO := Lib.hid ho
    clear ho
    go_wp2_with fail
    refine (rnew_ok w1).mono ?_
    rintro e w2 ⟨rfl, hr, hb⟩
    have H0 : Hid (PP w w2 b0 w1.heap.size []) := pp_new HO.out hr hb
    clear hr hb HO hx1 hx2 hd2 h150
    obtain ⟨r0, hr0⟩ : ∃ r0, w1.heap.size = r0 := ⟨_, rfl⟩
    rw [hr0] at H0 ⊢
    clear hr0
    go_wp2_with fail
    go_loopw [5, 6, 7] (fun pv rv ix wr => ∃ (k b r : Nat) (L : List En), k ≤ len ∧ pv = .pointer (some ⟨b, 0, none⟩) ∧ rv = .pointer (some ⟨r, 0, none⟩) ∧ ix = .int .i64 k ∧ Hid (PP w wr b r L)) (fun _ _ ix _ => len - (intOf ix).toNat)
    case atStart => exact ⟨0, _, _, _, Nat.zero_le _, rfl, rfl, rfl, H0.out⟩
    case round =>
      clear H0
      obtain ⟨k, b, r, L, hk, rfl, rfl, rfl, HS⟩ := hrel
      have HLn : Hid (∀ now, (ids (due L now)).length ≤ 1000) := fun now => by rw [ids_length]; have := due_length_le L now; have := HS.out.len; omega
      by_cases hlt : k < len
      · obtain ⟨B, off, rfl, hB, hcells⟩ := (HU.out.below HS.out.bel).at_ (by omega)
        obtain ⟨hc0, hc1, hc2⟩ := hcells k hlt
        obtain ⟨hi, ht⟩ := HU.out.bd k hlt
        generalize dos k = D at *
        generalize is k = i at *
        generalize ts k = t at *
        have HI := Lib.hid hi
        have HM := Lib.hid (HS.out.box #[.int .i64 D, .int .i64 i, .int .i64 t])
        have CC : Hid (∀ W L M, PX w W b r L M wr.heap.size #[.int .i64 D, .int .i64 i, .int .i64 t] → W.cell? ⟨wr.heap.size, 1, none⟩ = some (.int .i64 i) ∧ W.cell? ⟨wr.heap.size, 2, none⟩ = some (.int .i64 t)) := fun W L M h => ⟨h.cell 1, h.cell 2⟩
        clear hcells hi ht hB HW
        by_cases hD0 : D = 0
        · subst hD0
          go_wp2_with fail
          have HM := Lib.hid HM.out.drew
          have hz0 := CC.out _ _ _ HM.out
          go_region_held3 (fun W => W.cell? ⟨wr.heap.size, 1, none⟩ = some (.int .i64 i) ∧ W.cell? ⟨wr.heap.size, 2, none⟩ = some (.int .i64 t)) (first | (with_reducible exact hz0) | (with_reducible exact hz1) | (with_reducible exact hz2) | (with_reducible exact hz3)) (first
            | (go_at_call 14; (with_reducible refine (p_set HM.out HI.out t).mono ?_); rintro e s1 ⟨rfl, hp⟩; have HM1 := Lib.hid hp; have hz1 := CC.out _ _ _ HM1.out; clear hp)
            | (go_at_call 15; (with_reducible refine (r_set HM1.out HI.out t).mono ?_); rintro e s2 ⟨rfl, hp⟩; have HM2 := Lib.hid hp; have hz2 := CC.out _ _ _ HM2.out; clear hp))
          have HM := Lib.hid HM2.out
          clear hz0 hz1 hz2 HM1 HM2
          go_wp2_with (first
          | (go_at_call 23; (with_reducible refine (p_next HM.out).mono ?_); rintro e s ⟨rfl, hp⟩; have HM := Lib.hid hp; clear hp; have hy := (CC.out _ _ _ HM.out).1)
          | (go_at_call 24; (with_reducible refine (r_next HM.out).mono ?_); rintro e s ⟨rfl, hp⟩; have HM := Lib.hid hp; clear hp; have hy := (CC.out _ _ _ HM.out).1)
          | (go_at_call 25; (with_reducible refine (p_when HM.out HA.out).mono ?_); rintro e s ⟨rfl, rfl⟩; skip)
          | (go_at_call 26; (with_reducible refine (r_when HM.out ask).mono ?_); rintro e s ⟨rfl, rfl⟩; skip)
          | (go_at_call 25; (with_reducible refine (p_when HM.out HI.out).mono ?_); rintro e s ⟨rfl, rfl⟩; skip)
          | (go_at_call 26; (with_reducible refine (r_when HM.out i).mono ?_); rintro e s ⟨rfl, rfl⟩; skip)
          | (go_at_call 27; (with_reducible refine (p_len HM.out).mono ?_); rintro e s ⟨rfl, rfl⟩; skip)
          | (go_at_call 28; (with_reducible refine (r_len HM.out).mono ?_); rintro e s ⟨rfl, rfl⟩; skip))
          go_roundw
          case rel => exact ⟨k + 1, _, _, _, by omega, rfl, rfl, by go_num, HM.out.un⟩
          case measure => simp [intOf]; omega
        by_cases hD1 : D = 1
        · subst hD1
          clear hD0
          go_wp2_with fail
          have HM := Lib.hid HM.out.drew
          have hz0 := (CC.out _ _ _ HM.out).1
          go_region_held3 (fun W => W.cell? ⟨wr.heap.size, 1, none⟩ = some (.int .i64 i)) (first | (with_reducible exact hz0) | (with_reducible exact hz1) | (with_reducible exact hz2) | (with_reducible exact hz3)) (first
            | (go_at_call 16; (with_reducible refine (p_drop HM.out HI.out).mono ?_); rintro e s1 ⟨rfl, hp⟩; have HM1 := Lib.hid hp; have hz1 := (CC.out _ _ _ HM1.out).1; clear hp)
            | (go_at_call 17; (with_reducible refine (r_drop HM1.out i).mono ?_); rintro e s2 ⟨rfl, hp⟩; have HM2 := Lib.hid hp; have hz2 := (CC.out _ _ _ HM2.out).1; clear hp))
          have HM := Lib.hid HM2.out
          clear hz0 hz1 hz2 HM1 HM2
          go_wp2_with (first
          | (go_at_call 23; (with_reducible refine (p_next HM.out).mono ?_); rintro e s ⟨rfl, hp⟩; have HM := Lib.hid hp; clear hp; have hy := (CC.out _ _ _ HM.out).1)
          | (go_at_call 24; (with_reducible refine (r_next HM.out).mono ?_); rintro e s ⟨rfl, hp⟩; have HM := Lib.hid hp; clear hp; have hy := (CC.out _ _ _ HM.out).1)
          | (go_at_call 25; (with_reducible refine (p_when HM.out HA.out).mono ?_); rintro e s ⟨rfl, rfl⟩; skip)
          | (go_at_call 26; (with_reducible refine (r_when HM.out ask).mono ?_); rintro e s ⟨rfl, rfl⟩; skip)
          | (go_at_call 25; (with_reducible refine (p_when HM.out HI.out).mono ?_); rintro e s ⟨rfl, rfl⟩; skip)
          | (go_at_call 26; (with_reducible refine (r_when HM.out i).mono ?_); rintro e s ⟨rfl, rfl⟩; skip)
          | (go_at_call 27; (with_reducible refine (p_len HM.out).mono ?_); rintro e s ⟨rfl, rfl⟩; skip)
          | (go_at_call 28; (with_reducible refine (r_len HM.out).mono ?_); rintro e s ⟨rfl, rfl⟩; skip))
          go_roundw
          case rel => exact ⟨k + 1, _, _, _, by omega, rfl, rfl, by go_num, HM.out.un⟩
          case measure => simp [intOf]; omega
        by_cases hD2 : D = 2
        · subst hD2
          clear hD0 hD1
          go_wp2_with fail
          have HM := Lib.hid HM.out.drew
          have hz0 := (CC.out _ _ _ HM.out).2
          go_region_held3 (fun W => W.cell? ⟨wr.heap.size, 2, none⟩ = some (.int .i64 t)) (first | (with_reducible exact hz0) | (with_reducible exact hz1) | (with_reducible exact hz2) | (with_reducible exact hz3)) (first
            | (go_at_call 19; (with_reducible refine (p_due HM.out t).mono ?_); rintro e s1 ⟨a1, c1, rfl, hp, hr1, hg1⟩; have HM1 := Lib.hid hp; have HR1 := Lib.hid (And.intro hr1 hg1); have hz1 := (CC.out _ _ _ HM1.out).2; clear hp hr1 hg1)
            | (go_at_call 20; (with_reducible refine (r_due HM1.out t).mono ?_); rintro e s2 ⟨a2, c2, rfl, hp, hr2, hk2⟩; have HM2 := Lib.hid hp; have HR2 := Lib.hid (And.intro (HR1.out.1.kept hk2 HR1.out.2) hr2); have hz2 := (CC.out _ _ _ HM2.out).2; clear hp hr2 hk2)
            | (go_at_call 18; (with_reducible refine (ints_ok _ _ (ids (due L t)) (HLn.out t) _ HR2.out.1 HR2.out.2).mono ?_); rintro e s3 ⟨rfl, hq⟩; have HM3 := Lib.hid (quiet_drewN HM2.out hq); have hz3 := (CC.out _ _ _ HM3.out).2; clear hq))
          have HM := Lib.hid HM3.out
          clear hz0 hz1 hz2 hz3 HM1 HM2 HM3 HR1 HR2
          go_wp2_with (first
          | (go_at_call 23; (with_reducible refine (p_next HM.out).mono ?_); rintro e s ⟨rfl, hp⟩; have HM := Lib.hid hp; clear hp; have hy := (CC.out _ _ _ HM.out).1)
          | (go_at_call 24; (with_reducible refine (r_next HM.out).mono ?_); rintro e s ⟨rfl, hp⟩; have HM := Lib.hid hp; clear hp; have hy := (CC.out _ _ _ HM.out).1)
          | (go_at_call 25; (with_reducible refine (p_when HM.out HA.out).mono ?_); rintro e s ⟨rfl, rfl⟩; skip)
          | (go_at_call 26; (with_reducible refine (r_when HM.out ask).mono ?_); rintro e s ⟨rfl, rfl⟩; skip)
          | (go_at_call 25; (with_reducible refine (p_when HM.out HI.out).mono ?_); rintro e s ⟨rfl, rfl⟩; skip)
          | (go_at_call 26; (with_reducible refine (r_when HM.out i).mono ?_); rintro e s ⟨rfl, rfl⟩; skip)
          | (go_at_call 27; (with_reducible refine (p_len HM.out).mono ?_); rintro e s ⟨rfl, rfl⟩; skip)
          | (go_at_call 28; (with_reducible refine (r_len HM.out).mono ?_); rintro e s ⟨rfl, rfl⟩; skip))
          go_roundw
          case rel => exact ⟨k + 1, _, _, _, by omega, rfl, rfl, by go_num, HM.out.un⟩
          case measure => simp [intOf]; omega
        by_cases hD3 : D = 3
        · subst hD3
          clear hD0 hD1 hD2
          go_wp2_with (first
            | (go_at_call 21; (with_reducible refine (p_copy HM.out).mono ?_); rintro e s1 ⟨b2, rfl, hp⟩; have HM1 := Lib.hid hp; clear hp)
            | (go_at_call 22; (with_reducible refine (r_copy HM1.out).mono ?_); rintro e s2 ⟨r2, rfl, hp⟩; have HM := Lib.hid hp; have CC : Hid (∀ W L M, PX w W b2 r2 L M wr.heap.size #[.int .i64 3, .int .i64 i, .int .i64 t] → W.cell? ⟨wr.heap.size, 1, none⟩ = some (.int .i64 i) ∧ W.cell? ⟨wr.heap.size, 2, none⟩ = some (.int .i64 t)) := (fun W L M h => ⟨h.cell 1, h.cell 2⟩); clear hp)
            | (first
          | (go_at_call 23; (with_reducible refine (p_next HM.out).mono ?_); rintro e s ⟨rfl, hp⟩; have HM := Lib.hid hp; clear hp; have hy := (CC.out _ _ _ HM.out).1)
          | (go_at_call 24; (with_reducible refine (r_next HM.out).mono ?_); rintro e s ⟨rfl, hp⟩; have HM := Lib.hid hp; clear hp; have hy := (CC.out _ _ _ HM.out).1)
          | (go_at_call 25; (with_reducible refine (p_when HM.out HA.out).mono ?_); rintro e s ⟨rfl, rfl⟩; skip)
          | (go_at_call 26; (with_reducible refine (r_when HM.out ask).mono ?_); rintro e s ⟨rfl, rfl⟩; skip)
          | (go_at_call 25; (with_reducible refine (p_when HM.out HI.out).mono ?_); rintro e s ⟨rfl, rfl⟩; skip)
          | (go_at_call 26; (with_reducible refine (r_when HM.out i).mono ?_); rintro e s ⟨rfl, rfl⟩; skip)
          | (go_at_call 27; (with_reducible refine (p_len HM.out).mono ?_); rintro e s ⟨rfl, rfl⟩; skip)
          | (go_at_call 28; (with_reducible refine (r_len HM.out).mono ?_); rintro e s ⟨rfl, rfl⟩; skip)))
          go_roundw
          case rel => exact ⟨k + 1, _, _, _, by omega, rfl, rfl, by go_num, HM.out.un⟩
          case measure => simp [intOf]; omega
        · have b0 : (D == 0) = false := by simpa using hD0
          have b1 : (D == 1) = false := by simpa using hD1
          have b2 : (D == 2) = false := by simpa using hD2
          have b3 : (D == 3) = false := by simpa using hD3
          clear hD0 hD1 hD2 hD3
          have hy := (CC.out _ _ _ HM.out).1
          go_wp2_with (first
          | (go_at_call 23; (with_reducible refine (p_next HM.out).mono ?_); rintro e s ⟨rfl, hp⟩; have HM := Lib.hid hp; clear hp; have hy := (CC.out _ _ _ HM.out).1)
          | (go_at_call 24; (with_reducible refine (r_next HM.out).mono ?_); rintro e s ⟨rfl, hp⟩; have HM := Lib.hid hp; clear hp; have hy := (CC.out _ _ _ HM.out).1)
          | (go_at_call 25; (with_reducible refine (p_when HM.out HA.out).mono ?_); rintro e s ⟨rfl, rfl⟩; skip)
          | (go_at_call 26; (with_reducible refine (r_when HM.out ask).mono ?_); rintro e s ⟨rfl, rfl⟩; skip)
          | (go_at_call 25; (with_reducible refine (p_when HM.out HI.out).mono ?_); rintro e s ⟨rfl, rfl⟩; skip)
          | (go_at_call 26; (with_reducible refine (r_when HM.out i).mono ?_); rintro e s ⟨rfl, rfl⟩; skip)
          | (go_at_call 27; (with_reducible refine (p_len HM.out).mono ?_); rintro e s ⟨rfl, rfl⟩; skip)
          | (go_at_call 28; (with_reducible refine (r_len HM.out).mono ?_); rintro e s ⟨rfl, rfl⟩; skip))
          go_roundw
          case rel => exact ⟨k + 1, _, _, _, by omega, rfl, rfl, by go_num, HM.out.un⟩
          case measure => simp [intOf]; omega
      · go_wp2_with (first
          | (go_at_call 19; (with_reducible refine (pp_due1 HS.out 1099511627776).mono ?_); rintro e s1 ⟨a1, c1, rfl, hp⟩; have HE := Lib.hid hp; clear hp)
          | (go_at_call 20; (with_reducible refine (pp_due2 HE.out HS.out.srt).mono ?_); rintro e s2 ⟨a2, c2, rfl, hp⟩; have HE2 := Lib.hid hp; clear hp)
          | (go_at_call 18; (with_reducible refine (ints_ok _ _ (ids (due L 1099511627776)) (HLn.out _) _ HE2.out.1 HE2.out.2.1).mono ?_); rintro e s3 ⟨rfl, hq⟩; have HB3 : Hid (Below w.heap.size w s3) := bel_some HE2.out.2.2 hq; clear hq)
          | (go_at_call 11; (with_reducible refine (HW.out _).mono ?_); rintro e s4 ⟨rfl, hb4⟩; have HB4 := Lib.hid (bel2 HB3.out hb4); clear hb4))
        go_ret
        exact ⟨rfl, HB4.out⟩
  · have hx1 : decide ((150 : Int) < (len : Int)) = false := by simp; omega
    have hx2 : True := True.intro
    go_wp2_with fail
    refine (own_made w w (Below.refl _ _)).mono ?_
    rintro e w1 ⟨b0, rfl, ho⟩
    have HO := Lib.hid ho
    clear ho
    go_wp2_with fail
    refine (rnew_ok w1).mono ?_
    rintro e w2 ⟨rfl, hr, hb⟩
    have H0 : Hid (PP w w2 b0 w1.heap.size []) := pp_new HO.out hr hb
    clear hr hb HO hx1 hx2 hd2 h150
    obtain ⟨r0, hr0⟩ : ∃ r0, w1.heap.size = r0 := ⟨_, rfl⟩
    rw [hr0] at H0 ⊢
    clear hr0
    go_wp2_with fail
    go_loopw [5, 6, 7] (fun pv rv ix wr => ∃ (k b r : Nat) (L : List En), k ≤ len ∧ pv = .pointer (some ⟨b, 0, none⟩) ∧ rv = .pointer (some ⟨r, 0, none⟩) ∧ ix = .int .i64 k ∧ Hid (PP w wr b r L)) (fun _ _ ix _ => len - (intOf ix).toNat)
    case atStart => exact ⟨0, _, _, _, Nat.zero_le _, rfl, rfl, rfl, H0.out⟩
    case round =>
      clear H0
      obtain ⟨k, b, r, L, hk, rfl, rfl, rfl, HS⟩ := hrel
      have HLn : Hid (∀ now, (ids (due L now)).length ≤ 1000) := fun now => by rw [ids_length]; have := due_length_le L now; have := HS.out.len; omega
      by_cases hlt : k < len
      · obtain ⟨B, off, rfl, hB, hcells⟩ := (HU.out.below HS.out.bel).at_ (by omega)
        obtain ⟨hc0, hc1, hc2⟩ := hcells k hlt
        obtain ⟨hi, ht⟩ := HU.out.bd k hlt
        generalize dos k = D at *
        generalize is k = i at *
        generalize ts k = t at *
        have HI := Lib.hid hi
        have HM := Lib.hid (HS.out.box #[.int .i64 D, .int .i64 i, .int .i64 t])
        have CC : Hid (∀ W L M, PX w W b r L M wr.heap.size #[.int .i64 D, .int .i64 i, .int .i64 t] → W.cell? ⟨wr.heap.size, 1, none⟩ = some (.int .i64 i) ∧ W.cell? ⟨wr.heap.size, 2, none⟩ = some (.int .i64 t)) := fun W L M h => ⟨h.cell 1, h.cell 2⟩
        clear hcells hi ht hB HW
        by_cases hD0 : D = 0
        · subst hD0
          go_wp2_with fail
          have HM := Lib.hid HM.out.drew
          have hz0 := CC.out _ _ _ HM.out
          go_region_held3 (fun W => W.cell? ⟨wr.heap.size, 1, none⟩ = some (.int .i64 i) ∧ W.cell? ⟨wr.heap.size, 2, none⟩ = some (.int .i64 t)) (first | (with_reducible exact hz0) | (with_reducible exact hz1) | (with_reducible exact hz2) | (with_reducible exact hz3)) (first
            | (go_at_call 14; (with_reducible refine (p_set HM.out HI.out t).mono ?_); rintro e s1 ⟨rfl, hp⟩; have HM1 := Lib.hid hp; have hz1 := CC.out _ _ _ HM1.out; clear hp)
            | (go_at_call 15; (with_reducible refine (r_set HM1.out HI.out t).mono ?_); rintro e s2 ⟨rfl, hp⟩; have HM2 := Lib.hid hp; have hz2 := CC.out _ _ _ HM2.out; clear hp))
          have HM := Lib.hid HM2.out
          clear hz0 hz1 hz2 HM1 HM2
          go_wp2_with (first
          | (go_at_call 23; (with_reducible refine (p_next HM.out).mono ?_); rintro e s ⟨rfl, hp⟩; have HM := Lib.hid hp; clear hp; have hy := (CC.out _ _ _ HM.out).1)
          | (go_at_call 24; (with_reducible refine (r_next HM.out).mono ?_); rintro e s ⟨rfl, hp⟩; have HM := Lib.hid hp; clear hp; have hy := (CC.out _ _ _ HM.out).1)
          | (go_at_call 25; (with_reducible refine (p_when HM.out HA.out).mono ?_); rintro e s ⟨rfl, rfl⟩; skip)
          | (go_at_call 26; (with_reducible refine (r_when HM.out ask).mono ?_); rintro e s ⟨rfl, rfl⟩; skip)
          | (go_at_call 25; (with_reducible refine (p_when HM.out HI.out).mono ?_); rintro e s ⟨rfl, rfl⟩; skip)
          | (go_at_call 26; (with_reducible refine (r_when HM.out i).mono ?_); rintro e s ⟨rfl, rfl⟩; skip)
          | (go_at_call 27; (with_reducible refine (p_len HM.out).mono ?_); rintro e s ⟨rfl, rfl⟩; skip)
          | (go_at_call 28; (with_reducible refine (r_len HM.out).mono ?_); rintro e s ⟨rfl, rfl⟩; skip))
          go_roundw
          case rel => exact ⟨k + 1, _, _, _, by omega, rfl, rfl, by go_num, HM.out.un⟩
          case measure => simp [intOf]; omega
        by_cases hD1 : D = 1
        · subst hD1
          clear hD0
          go_wp2_with fail
          have HM := Lib.hid HM.out.drew
          have hz0 := (CC.out _ _ _ HM.out).1
          go_region_held3 (fun W => W.cell? ⟨wr.heap.size, 1, none⟩ = some (.int .i64 i)) (first | (with_reducible exact hz0) | (with_reducible exact hz1) | (with_reducible exact hz2) | (with_reducible exact hz3)) (first
            | (go_at_call 16; (with_reducible refine (p_drop HM.out HI.out).mono ?_); rintro e s1 ⟨rfl, hp⟩; have HM1 := Lib.hid hp; have hz1 := (CC.out _ _ _ HM1.out).1; clear hp)
            | (go_at_call 17; (with_reducible refine (r_drop HM1.out i).mono ?_); rintro e s2 ⟨rfl, hp⟩; have HM2 := Lib.hid hp; have hz2 := (CC.out _ _ _ HM2.out).1; clear hp))
          have HM := Lib.hid HM2.out
          clear hz0 hz1 hz2 HM1 HM2
          go_wp2_with (first
          | (go_at_call 23; (with_reducible refine (p_next HM.out).mono ?_); rintro e s ⟨rfl, hp⟩; have HM := Lib.hid hp; clear hp; have hy := (CC.out _ _ _ HM.out).1)
          | (go_at_call 24; (with_reducible refine (r_next HM.out).mono ?_); rintro e s ⟨rfl, hp⟩; have HM := Lib.hid hp; clear hp; have hy := (CC.out _ _ _ HM.out).1)
          | (go_at_call 25; (with_reducible refine (p_when HM.out HA.out).mono ?_); rintro e s ⟨rfl, rfl⟩; skip)
          | (go_at_call 26; (with_reducible refine (r_when HM.out ask).mono ?_); rintro e s ⟨rfl, rfl⟩; skip)
          | (go_at_call 25; (with_reducible refine (p_when HM.out HI.out).mono ?_); rintro e s ⟨rfl, rfl⟩; skip)
          | (go_at_call 26; (with_reducible refine (r_when HM.out i).mono ?_); rintro e s ⟨rfl, rfl⟩; skip)
          | (go_at_call 27; (with_reducible refine (p_len HM.out).mono ?_); rintro e s ⟨rfl, rfl⟩; skip)
          | (go_at_call 28; (with_reducible refine (r_len HM.out).mono ?_); rintro e s ⟨rfl, rfl⟩; skip))
          go_roundw
          case rel => exact ⟨k + 1, _, _, _, by omega, rfl, rfl, by go_num, HM.out.un⟩
          case measure => simp [intOf]; omega
        by_cases hD2 : D = 2
        · subst hD2
          clear hD0 hD1
          go_wp2_with fail
          have HM := Lib.hid HM.out.drew
          have hz0 := (CC.out _ _ _ HM.out).2
          go_region_held3 (fun W => W.cell? ⟨wr.heap.size, 2, none⟩ = some (.int .i64 t)) (first | (with_reducible exact hz0) | (with_reducible exact hz1) | (with_reducible exact hz2) | (with_reducible exact hz3)) (first
            | (go_at_call 19; (with_reducible refine (p_due HM.out t).mono ?_); rintro e s1 ⟨a1, c1, rfl, hp, hr1, hg1⟩; have HM1 := Lib.hid hp; have HR1 := Lib.hid (And.intro hr1 hg1); have hz1 := (CC.out _ _ _ HM1.out).2; clear hp hr1 hg1)
            | (go_at_call 20; (with_reducible refine (r_due HM1.out t).mono ?_); rintro e s2 ⟨a2, c2, rfl, hp, hr2, hk2⟩; have HM2 := Lib.hid hp; have HR2 := Lib.hid (And.intro (HR1.out.1.kept hk2 HR1.out.2) hr2); have hz2 := (CC.out _ _ _ HM2.out).2; clear hp hr2 hk2)
            | (go_at_call 18; (with_reducible refine (ints_ok _ _ (ids (due L t)) (HLn.out t) _ HR2.out.1 HR2.out.2).mono ?_); rintro e s3 ⟨rfl, hq⟩; have HM3 := Lib.hid (quiet_drewN HM2.out hq); have hz3 := (CC.out _ _ _ HM3.out).2; clear hq))
          have HM := Lib.hid HM3.out
          clear hz0 hz1 hz2 hz3 HM1 HM2 HM3 HR1 HR2
          go_wp2_with (first
          | (go_at_call 23; (with_reducible refine (p_next HM.out).mono ?_); rintro e s ⟨rfl, hp⟩; have HM := Lib.hid hp; clear hp; have hy := (CC.out _ _ _ HM.out).1)
          | (go_at_call 24; (with_reducible refine (r_next HM.out).mono ?_); rintro e s ⟨rfl, hp⟩; have HM := Lib.hid hp; clear hp; have hy := (CC.out _ _ _ HM.out).1)
          | (go_at_call 25; (with_reducible refine (p_when HM.out HA.out).mono ?_); rintro e s ⟨rfl, rfl⟩; skip)
          | (go_at_call 26; (with_reducible refine (r_when HM.out ask).mono ?_); rintro e s ⟨rfl, rfl⟩; skip)
          | (go_at_call 25; (with_reducible refine (p_when HM.out HI.out).mono ?_); rintro e s ⟨rfl, rfl⟩; skip)
          | (go_at_call 26; (with_reducible refine (r_when HM.out i).mono ?_); rintro e s ⟨rfl, rfl⟩; skip)
          | (go_at_call 27; (with_reducible refine (p_len HM.out).mono ?_); rintro e s ⟨rfl, rfl⟩; skip)
          | (go_at_call 28; (with_reducible refine (r_len HM.out).mono ?_); rintro e s ⟨rfl, rfl⟩; skip))
          go_roundw
          case rel => exact ⟨k + 1, _, _, _, by omega, rfl, rfl, by go_num, HM.out.un⟩
          case measure => simp [intOf]; omega
        by_cases hD3 : D = 3
        · subst hD3
          clear hD0 hD1 hD2
          go_wp2_with (first
            | (go_at_call 21; (with_reducible refine (p_copy HM.out).mono ?_); rintro e s1 ⟨b2, rfl, hp⟩; have HM1 := Lib.hid hp; clear hp)
            | (go_at_call 22; (with_reducible refine (r_copy HM1.out).mono ?_); rintro e s2 ⟨r2, rfl, hp⟩; have HM := Lib.hid hp; have CC : Hid (∀ W L M, PX w W b2 r2 L M wr.heap.size #[.int .i64 3, .int .i64 i, .int .i64 t] → W.cell? ⟨wr.heap.size, 1, none⟩ = some (.int .i64 i) ∧ W.cell? ⟨wr.heap.size, 2, none⟩ = some (.int .i64 t)) := (fun W L M h => ⟨h.cell 1, h.cell 2⟩); clear hp)
            | (first
          | (go_at_call 23; (with_reducible refine (p_next HM.out).mono ?_); rintro e s ⟨rfl, hp⟩; have HM := Lib.hid hp; clear hp; have hy := (CC.out _ _ _ HM.out).1)
          | (go_at_call 24; (with_reducible refine (r_next HM.out).mono ?_); rintro e s ⟨rfl, hp⟩; have HM := Lib.hid hp; clear hp; have hy := (CC.out _ _ _ HM.out).1)
          | (go_at_call 25; (with_reducible refine (p_when HM.out HA.out).mono ?_); rintro e s ⟨rfl, rfl⟩; skip)
          | (go_at_call 26; (with_reducible refine (r_when HM.out ask).mono ?_); rintro e s ⟨rfl, rfl⟩; skip)
          | (go_at_call 25; (with_reducible refine (p_when HM.out HI.out).mono ?_); rintro e s ⟨rfl, rfl⟩; skip)
          | (go_at_call 26; (with_reducible refine (r_when HM.out i).mono ?_); rintro e s ⟨rfl, rfl⟩; skip)
          | (go_at_call 27; (with_reducible refine (p_len HM.out).mono ?_); rintro e s ⟨rfl, rfl⟩; skip)
          | (go_at_call 28; (with_reducible refine (r_len HM.out).mono ?_); rintro e s ⟨rfl, rfl⟩; skip)))
          go_roundw
          case rel => exact ⟨k + 1, _, _, _, by omega, rfl, rfl, by go_num, HM.out.un⟩
          case measure => simp [intOf]; omega
        · have b0 : (D == 0) = false := by simpa using hD0
          have b1 : (D == 1) = false := by simpa using hD1
          have b2 : (D == 2) = false := by simpa using hD2
          have b3 : (D == 3) = false := by simpa using hD3
          clear hD0 hD1 hD2 hD3
          have hy := (CC.out _ _ _ HM.out).1
          go_wp2_with (first
          | (go_at_call 23; (with_reducible refine (p_next HM.out).mono ?_); rintro e s ⟨rfl, hp⟩; have HM := Lib.hid hp; clear hp; have hy := (CC.out _ _ _ HM.out).1)
          | (go_at_call 24; (with_reducible refine (r_next HM.out).mono ?_); rintro e s ⟨rfl, hp⟩; have HM := Lib.hid hp; clear hp; have hy := (CC.out _ _ _ HM.out).1)
          | (go_at_call 25; (with_reducible refine (p_when HM.out HA.out).mono ?_); rintro e s ⟨rfl, rfl⟩; skip)
          | (go_at_call 26; (with_reducible refine (r_when HM.out ask).mono ?_); rintro e s ⟨rfl, rfl⟩; skip)
          | (go_at_call 25; (with_reducible refine (p_when HM.out HI.out).mono ?_); rintro e s ⟨rfl, rfl⟩; skip)
          | (go_at_call 26; (with_reducible refine (r_when HM.out i).mono ?_); rintro e s ⟨rfl, rfl⟩; skip)
          | (go_at_call 27; (with_reducible refine (p_len HM.out).mono ?_); rintro e s ⟨rfl, rfl⟩; skip)
          | (go_at_call 28; (with_reducible refine (r_len HM.out).mono ?_); rintro e s ⟨rfl, rfl⟩; skip))
          go_roundw
          case rel => exact ⟨k + 1, _, _, _, by omega, rfl, rfl, by go_num, HM.out.un⟩
          case measure => simp [intOf]; omega
      · go_wp2_with (first
          | (go_at_call 19; (with_reducible refine (pp_due1 HS.out 1099511627776).mono ?_); rintro e s1 ⟨a1, c1, rfl, hp⟩; have HE := Lib.hid hp; clear hp)
          | (go_at_call 20; (with_reducible refine (pp_due2 HE.out HS.out.srt).mono ?_); rintro e s2 ⟨a2, c2, rfl, hp⟩; have HE2 := Lib.hid hp; clear hp)
          | (go_at_call 18; (with_reducible refine (ints_ok _ _ (ids (due L 1099511627776)) (HLn.out _) _ HE2.out.1 HE2.out.2.1).mono ?_); rintro e s3 ⟨rfl, hq⟩; have HB3 : Hid (Below w.heap.size w s3) := bel_some HE2.out.2.2 hq; clear hq)
          | (go_at_call 11; (with_reducible refine (HW.out _).mono ?_); rintro e s4 ⟨rfl, hb4⟩; have HB4 := Lib.hid (bel2 HB3.out hb4); clear hb4))
        go_ret
        exact ⟨rfl, HB4.out⟩
set_option maxRecDepth 100000 in
theorem plays_works (a : Option Addr) (len cap : Nat) (ask : Int) (w : World) (hl : (150 < len ∧ len ≤ 256) ∨ 261 < len) (hm : len ≤ 9223372036854775807) :
    Calls Try.prog 3 #[.slice a len cap, .int .i64 ask] w fun e w' => e = .returned (.bool true) ∧ Below w.heap.size w w' := by
  have HW := Lib.hid (works_ok w)
  have hx1 : decide ((150 : Int) < (len : Int)) = true := by simp; omega
  rcases hl with hl | hl
  · have hx2 : decide ((len : Int) ≤ 256) = true := by simp; omega
    go_enter Try.func3, Try.ntmps3
    go_wp2_with (go_at_call 11; refine HW.out.mono ?_; rintro e w1 ⟨rfl, hb⟩; have HB := Lib.hid hb; clear hb)
    go_ret
    exact ⟨rfl, HB.out⟩
  · have hx2 : decide ((len : Int) ≤ 256) = false := by simp; omega
    have hx3 : decide ((261 : Int) < (len : Int)) = true := by simp; omega
    go_enter Try.func3, Try.ntmps3
    go_wp2_with (go_at_call 11; refine HW.out.mono ?_; rintro e w1 ⟨rfl, hb⟩; have HB := Lib.hid hb; clear hb)
    go_ret
    exact ⟨rfl, HB.out⟩
theorem ePla_walk (a : Option Addr) (len cap : Nat) (dos is ts : Nat → Int) (ask : Int) (w : World) (hu : Steps w a len dos is ts) (hc : len ≤ cap) (hcm : cap ≤ 9223372036854775807) (h0 : -9223372036854775808 ≤ ask) (h1 : ask ≤ 9223372036854775807) :
    Calls Try.prog 3 #[.slice a len cap, .int .i64 ask] w fun e w' => e = .returned (.bool true) ∧ Below w.heap.size w w' := by
  by_cases hl : len ≤ 150 ∨ (257 ≤ len ∧ len ≤ 261)
  · exact plays_core a len cap dos is ts ask w ⟨h0, h1⟩ hl hu
  · exact plays_works a len cap ask w (by omega) (by omega)
end Go.Proofs.Ytlnjgbdekcgmpaa
