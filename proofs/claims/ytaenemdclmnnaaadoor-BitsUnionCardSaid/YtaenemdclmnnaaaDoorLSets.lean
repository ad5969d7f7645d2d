/- The walk of the statement BitsSets: it returns true for all sizes and lists. -/
import Derived.Test.YtaenemdclmnnaaaDoorLNext
namespace Go.Proofs.YtaenemdclmnnaaaDoor
open Go.RowKit

/-- A set (numbers F), the answers has (H), laid since w0. -/
structure SSt (w0 w : World) (b g h n : Nat) (F H : Nat → Bool) : Prop where
  s : SetW w b g n F
  l : Bl w h n H
  t : Tab w
  bel : Below w0.heap.size w0 w
  x0 : (0 : Nat) < w0.heap.size
  x1 : w0.heap.size ≤ b
  x2 : w0.heap.size ≤ g
  x3 : b < h
  x4 : g < h
theorem SSt.quiet {w0 w w' : World} {b g h n : Nat} {F H : Nat → Bool} (a : SSt w0 w b g h n F H) (k : Below w.heap.size w w') : SSt w0 w' b g h n F H :=
  ⟨a.s.below k, a.l.below k, a.t.below k, a.bel.trans (k.mono a.bel.size), a.x0, a.x1, a.x2, a.x3, a.x4⟩
theorem SSt.kg {w0 w w' : World} {b g h n : Nat} {F F' H : Nat → Bool} (a : SSt w0 w b g h n F H) (k : Kept (· = g) w w') (hs : SetW w' b g n F') : SSt w0 w' b g h n F' H :=
  ⟨hs, a.l.kept k (by have := a.x4; omega), a.t.same (k.block _ a.t.lt (by have := a.x0; have := a.x2; omega)), a.bel.trans (kept_below k a.bel.size a.x2), a.x0, a.x1, a.x2, a.x3, a.x4⟩
theorem SSt.kh {w0 w : World} {b g h n j : Nat} {F H : Nat → Bool} (a : SSt w0 w b g h n F H) (hj : j < n) (v : Bool) : SSt w0 (w.setCell ⟨h, j, none⟩ (.bool v)) b g h n F (upd H j v) := by
  have k : Kept (· = h) w (w.setCell ⟨h, j, none⟩ (.bool v)) := (Kept.refl (· = h) w).put1 j _
  have x3 := a.x3
  have x4 := a.x4
  exact ⟨a.s.kept k (by omega) (by omega), a.l.put hj v, a.t.same (k.block _ a.t.lt (by have := a.x0; have := a.x2; omega)), a.bel.trans (kept_below k a.bel.size (by have := a.x2; omega)), a.x0, a.x1, a.x2, a.x3, a.x4⟩
theorem upd_upd (f : Nat → Bool) (j : Nat) (u v : Bool) : upd (upd f j u) j v = upd f j v := by
  funext i; unfold upd; split <;> rfl

/-- Behind k rounds of the second loop: each number is removed, and each third one added again. -/
def accM (G : Nat → Bool) (c : Nat → Nat) (n : Nat) : Nat → Nat → Bool
  | 0 => G
  | k + 1 => upd (accM G c n k) (c k % n) (k % 3 == 2)
theorem count_n (b g n k : Nat) (f : Nat → Bool) (w : World) (h : SetW w b g n f) (hk : (lst f n).length = k) : Calls Tryd.prog 28 #[.pointer (some ⟨b, 0, none⟩)] w fun e w' => e = .returned (.int .i64 (k : Int)) ∧ w = w' := by
  have := count_ok b g n f w h
  rwa [hk] at this
theorem lst_empty (n : Nat) : lst (fun _ => false) n = [] := by simp [lst]

set_option maxRecDepth 100000 in
set_option maxHeartbeats 8000000 in
theorem sets_lt (sz : Int) (a : Option Addr) (len cap : Nat) (c : Nat → Nat) (a2 : Option Addr) (len2 cap2 : Nat) (c2 : Nat → Nat) (n : Nat) (w : World) (hs0 : 0 ≤ sz) (hs1 : sz ≤ 65535) (hn : 1 + sz % 4096 = (n : Int)) (hu : U16s w a len cap c) (hu2 : U16s w a2 len2 cap2 c2) (hT : Tab w) (hc : len2 < 100) :
    Calls Tryd.prog 5 #[.int .u16 sz, .slice a len cap, .slice a2 len2 cap2] w fun e w' => e = .returned (.bool true) ∧ Below w.heap.size w w' := by
  have hn2 : 1 + sz.tmod 4096 = (n : Int) := by rw [Int.tmod_eq_emod_of_nonneg hs0]; exact hn
  have hn1 : 1 ≤ n := by omega
  have hn3 : n ≤ 4096 := by omega
  have HMADE := Lib.hid (made_ok n a len cap c w hn1 hn3 hu)
  have HT := Lib.hid hT
  have HU := Lib.hid hu2
  have hle := hu2.le
  have hcap := hu2.capB
  clear hT hu hu2
  go_enter Tryd.func5, Tryd.ntmps5
  go_wp2_with fail
  refine HMADE.out.mono ?_
  rintro e w1 ⟨b, g, h, p1, p2, p3, p4, rfl, hs, hl, hb⟩
  have ST : Hid (SSt w w1 b g h n (acc c n (min len 100)) (acc c n (min len 100))) := ⟨hs, hl, HT.out.below hb, hb, HT.out.lt, p1, p2, p3, p4⟩
  clear hs hl hb p1 p2 p3 p4 HMADE
  generalize acc c n (min len 100) = G at *
  clear hn hn2
  go_wp2
  go_loopw [37] (fun i wr => ∃ k : Nat, k ≤ len2 ∧ i = .int .i64 k ∧ Hid (SSt w wr b g h n (accM G c2 n k) (accM G c2 n k))) (fun i _ => len2 - (intOf i).toNat)
  case atStart => exact ⟨0, Nat.zero_le _, rfl, ST.out⟩
  case round =>
    obtain ⟨k, hk, rfl, HS⟩ := hrel
    by_cases hlt : k < len2
    · obtain ⟨B, off, rfl, hB, hcells⟩ := (HU.out.below HS.out.bel).at_ (by omega)
      have hcx := hcells k (by omega)
      have hx16 := HU.out.lt k (by omega)
      obtain ⟨j, hj⟩ : ∃ j, c2 k % n = j := ⟨_, rfl⟩
      have hjn : j < n := by rw [← hj]; exact Nat.mod_lt _ (by omega)
      have HACC : Hid (accM G c2 n (k + 1) = upd (accM G c2 n k) j (k % 3 == 2)) := by rw [← hj]; rfl
      generalize c2 k = x at *
      have e2 : (x : Int) % (n : Int) = (j : Int) := by
        have := congrArg (fun n : Nat => (n : Int)) hj
        simpa using this
      have e1 : (x : Int).tmod (n : Int) = (j : Int) := by rw [Int.tmod_eq_emod_of_nonneg (by omega)]; exact e2
      generalize accM G c2 n k = F at *
      have HJ := Lib.hid hj
      clear hj hcells
      go_wp2_with fail
      refine (remove_in b g n F j _ HS.out.s hjn).mono ?_
      rintro e w2 ⟨rfl, hs2, hk2⟩
      have HS2 := Lib.hid (HS.out.kg hk2 hs2)
      have hv := HS2.out.l.val hjn
      have hf := HS2.out.l.fz j
      have HS3 := Lib.hid (HS2.out.kh hjn false)
      clear hs2 hk2 hcx e1 e2
      by_cases hk3 : k % 3 = 2
      · have e3 : ((k : Int) % 3 == 2) = true := by simp; omega
        have e4 : ((k : Int).tmod 3 == 2) = true := by rw [Int.tmod_eq_emod_of_nonneg (by omega)]; exact e3
        have HK3 := Lib.hid hk3
        clear hk3
        go_wp2_with fail
        refine (add_in b g n _ j _ HS3.out.s hjn).mono ?_
        rintro e w4 ⟨rfl, hs4, hk4⟩
        have HS4 := Lib.hid (HS3.out.kg hk4 hs4)
        have hv2 := HS4.out.l.val hjn
        have hf2 := HS4.out.l.fz j
        have HS5 : Hid (SSt w (w4.setCell ⟨h, j, none⟩ (.bool true)) b g h n (accM G c2 n (k + 1)) (accM G c2 n (k + 1))) := by
          have h5 := HS4.out.kh hjn true
          simp only [upd_upd] at h5
          rw [HACC.out, HK3.out]; exact h5
        clear hs4 hk4 hv hf
        go_wp2
        go_roundw
        case rel => exact ⟨k + 1, by omega, by go_num, HS5.out⟩
        case measure => simp [intOf]; omega
      · have e3 : ((k : Int) % 3 == 2) = false := by simp; omega
        have e4 : ((k : Int).tmod 3 == 2) = false := by rw [Int.tmod_eq_emod_of_nonneg (by omega)]; exact e3
        have HS5 : Hid (SSt w (w2.setCell ⟨h, j, none⟩ (.bool false)) b g h n (accM G c2 n (k + 1)) (accM G c2 n (k + 1))) := by
          have e5 : (k % 3 == 2) = false := by simp [hk3]
          rw [HACC.out, e5]; exact HS3.out
        clear hk3
        go_wp2
        go_roundw
        case rel => exact ⟨k + 1, by omega, by go_num, HS5.out⟩
        case measure => simp [intOf]; omega
    · obtain ⟨F, hF⟩ : ∃ F, accM G c2 n k = F := ⟨_, rfl⟩
      rw [hF] at HS
      clear hF
      obtain rfl : k = len2 := by omega
      go_wp2_with fail
      refine (listed_s h n n F (lst F n) _ hn3 HS.out.l rfl).mono ?_
      rintro e w2 ⟨v2, rfl, hv2, _, hb2⟩
      have HS2 := Lib.hid (HS.out.quiet hb2)
      have V2 := Lib.hid hv2
      clear hv2 hb2 HS
      go_wp2
      go_loopw [68] (fun i wr => ∃ k : Nat, k ≤ n ∧ i = .int .i64 k ∧ Hid (Below w2.heap.size w2 wr)) (fun i _ => n - (intOf i).toNat)
      case atStart => exact ⟨0, Nat.zero_le _, rfl, Below.refl _ _⟩
      case round =>
        obtain ⟨k2, hk2, rfl, HB⟩ := hrel
        have HS3 := Lib.hid (HS2.out.quiet HB.out)
        by_cases hlt2 : k2 < n
        · have hval := HS3.out.l.val hlt2
          cases hfk : F k2
          all_goals
            rw [hfk] at hval
            have HH := Lib.hid (has_in b g n F k2 wr HS3.out.s hlt2)
            rw [hfk] at HH
            clear hfk
            go_wp2_with fail
            refine HH.out.mono ?_
            rintro e w3 ⟨rfl, q, rfl⟩
            clear HH
            go_wp2
            go_roundw
            case rel => exact ⟨k2 + 1, by omega, by go_num, bel_drewN HB.out q⟩
            case measure => simp [intOf]; omega
        · obtain rfl : k2 = n := by omega
          have V3 := Lib.hid (V2.out.below HB.out)
          clear V2 HB HS2
          go_wp2_with fail
          refine (all_s b g k2 F (lst F k2) _ HS3.out.s HS3.out.t rfl).mono ?_
          rintro e w4 ⟨v4, rfl, hv4, _, hb4⟩
          have HS4 := Lib.hid (HS3.out.quiet hb4)
          have V4 := Lib.hid (V3.out.below hb4)
          have U4 := Lib.hid hv4
          clear hv4 hb4 HS3 V3
          go_wp2_with fail
          refine (equal_yes _ _ (lst F k2) _ U4.out V4.out).mono ?_
          rintro e w5 ⟨rfl, q5, rfl⟩
          have HS5 := Lib.hid (HS4.out.quiet (bel_drewN (Below.refl _ _) q5))
          obtain ⟨a5, c5, rfl, _, _⟩ := V4.out
          clear HS4 U4 V4
          generalize w4.drewN q5 = w6 at *
          obtain ⟨L, hL⟩ : ∃ L, (lst F k2).length = L := ⟨_, rfl⟩
          rw [hL]
          have HL := Lib.hid hL
          clear hL
          go_wp2_with fail
          refine (count_n b g k2 L F _ HS5.out.s HL.out).mono ?_
          rintro e w' ⟨rfl, rfl⟩
          go_wp2_with fail
          refine (size_ok b g k2 F _ HS5.out.s).mono ?_
          rintro e w' ⟨rfl, rfl⟩
          go_wp2_with fail
          refine (clear_ok b g k2 F _ HS5.out.s).mono ?_
          rintro e w7 ⟨rfl, hs7, hk7⟩
          have HS7 := Lib.hid (HS5.out.kg hk7 hs7)
          clear hs7 hk7 HS5
          go_wp2_with fail
          refine (count_n b g k2 0 _ _ HS7.out.s (by rw [lst_empty]; rfl)).mono ?_
          rintro e w' ⟨rfl, rfl⟩
          go_wp2_with fail
          refine (all_s b g k2 _ [] _ HS7.out.s HS7.out.t (lst_empty k2)).mono ?_
          rintro e w8 ⟨v8, rfl, ⟨a8, c8, rfl, _, _⟩, _, hb8⟩
          have HS8 := Lib.hid (HS7.out.quiet hb8)
          clear hb8 HS7
          go_wp2_with fail
          refine (size_ok b g k2 _ _ HS8.out.s).mono ?_
          rintro e w' ⟨rfl, rfl⟩
          go_wp2_with fail
          refine (works_ok _ HS8.out.t).mono ?_
          rintro e w9 ⟨rfl, hb9⟩
          go_wp2
          go_ret
          exact ⟨rfl, bel2 HS8.out.bel hb9⟩

set_option maxRecDepth 100000 in
set_option maxHeartbeats 8000000 in
theorem sets_eq (sz : Int) (a : Option Addr) (len cap : Nat) (c : Nat → Nat) (a2 : Option Addr) (len2 cap2 : Nat) (c2 : Nat → Nat) (n : Nat) (w : World) (hs0 : 0 ≤ sz) (hs1 : sz ≤ 65535) (hn : 1 + sz % 4096 = (n : Int)) (hu : U16s w a len cap c) (hu2 : U16s w a2 len2 cap2 c2) (hT : Tab w) (hc : len2 = 100) :
    Calls Tryd.prog 5 #[.int .u16 sz, .slice a len cap, .slice a2 len2 cap2] w fun e w' => e = .returned (.bool true) ∧ Below w.heap.size w w' := by
  have hn2 : 1 + sz.tmod 4096 = (n : Int) := by rw [Int.tmod_eq_emod_of_nonneg hs0]; exact hn
  have hn1 : 1 ≤ n := by omega
  have hn3 : n ≤ 4096 := by omega
  have HMADE := Lib.hid (made_ok n a len cap c w hn1 hn3 hu)
  have HT := Lib.hid hT
  have HU := Lib.hid hu2
  have hle := hu2.le
  have hcap := hu2.capB
  clear hT hu hu2
  subst hc
  go_enter Tryd.func5, Tryd.ntmps5
  go_wp2_with fail
  refine HMADE.out.mono ?_
  rintro e w1 ⟨b, g, h, p1, p2, p3, p4, rfl, hs, hl, hb⟩
  have ST : Hid (SSt w w1 b g h n (acc c n (min len 100)) (acc c n (min len 100))) := ⟨hs, hl, HT.out.below hb, hb, HT.out.lt, p1, p2, p3, p4⟩
  clear hs hl hb p1 p2 p3 p4 HMADE
  generalize acc c n (min len 100) = G at *
  clear hn hn2
  go_wp2
  go_loopw [37] (fun i wr => ∃ k : Nat, k ≤ 100 ∧ i = .int .i64 k ∧ Hid (SSt w wr b g h n (accM G c2 n k) (accM G c2 n k))) (fun i _ => 100 - (intOf i).toNat)
  case atStart => exact ⟨0, Nat.zero_le _, rfl, ST.out⟩
  case round =>
    obtain ⟨k, hk, rfl, HS⟩ := hrel
    by_cases hlt : k < 100
    · obtain ⟨B, off, rfl, hB, hcells⟩ := (HU.out.below HS.out.bel).at_ (by omega)
      have hcx := hcells k (by omega)
      have hx16 := HU.out.lt k (by omega)
      obtain ⟨j, hj⟩ : ∃ j, c2 k % n = j := ⟨_, rfl⟩
      have hjn : j < n := by rw [← hj]; exact Nat.mod_lt _ (by omega)
      have HACC : Hid (accM G c2 n (k + 1) = upd (accM G c2 n k) j (k % 3 == 2)) := by rw [← hj]; rfl
      generalize c2 k = x at *
      have e2 : (x : Int) % (n : Int) = (j : Int) := by
        have := congrArg (fun n : Nat => (n : Int)) hj
        simpa using this
      have e1 : (x : Int).tmod (n : Int) = (j : Int) := by rw [Int.tmod_eq_emod_of_nonneg (by omega)]; exact e2
      generalize accM G c2 n k = F at *
      have HJ := Lib.hid hj
      clear hj hcells
      go_wp2_with fail
      refine (remove_in b g n F j _ HS.out.s hjn).mono ?_
      rintro e w2 ⟨rfl, hs2, hk2⟩
      have HS2 := Lib.hid (HS.out.kg hk2 hs2)
      have hv := HS2.out.l.val hjn
      have hf := HS2.out.l.fz j
      have HS3 := Lib.hid (HS2.out.kh hjn false)
      clear hs2 hk2 hcx e1 e2
      by_cases hk3 : k % 3 = 2
      · have e3 : ((k : Int) % 3 == 2) = true := by simp; omega
        have e4 : ((k : Int).tmod 3 == 2) = true := by rw [Int.tmod_eq_emod_of_nonneg (by omega)]; exact e3
        have HK3 := Lib.hid hk3
        clear hk3
        go_wp2_with fail
        refine (add_in b g n _ j _ HS3.out.s hjn).mono ?_
        rintro e w4 ⟨rfl, hs4, hk4⟩
        have HS4 := Lib.hid (HS3.out.kg hk4 hs4)
        have hv2 := HS4.out.l.val hjn
        have hf2 := HS4.out.l.fz j
        have HS5 : Hid (SSt w (w4.setCell ⟨h, j, none⟩ (.bool true)) b g h n (accM G c2 n (k + 1)) (accM G c2 n (k + 1))) := by
          have h5 := HS4.out.kh hjn true
          simp only [upd_upd] at h5
          rw [HACC.out, HK3.out]; exact h5
        clear hs4 hk4 hv hf
        go_wp2
        go_roundw
        case rel => exact ⟨k + 1, by omega, by go_num, HS5.out⟩
        case measure => simp [intOf]; omega
      · have e3 : ((k : Int) % 3 == 2) = false := by simp; omega
        have e4 : ((k : Int).tmod 3 == 2) = false := by rw [Int.tmod_eq_emod_of_nonneg (by omega)]; exact e3
        have HS5 : Hid (SSt w (w2.setCell ⟨h, j, none⟩ (.bool false)) b g h n (accM G c2 n (k + 1)) (accM G c2 n (k + 1))) := by
          have e5 : (k % 3 == 2) = false := by simp [hk3]
          rw [HACC.out, e5]; exact HS3.out
        clear hk3
        go_wp2
        go_roundw
        case rel => exact ⟨k + 1, by omega, by go_num, HS5.out⟩
        case measure => simp [intOf]; omega
    · obtain ⟨F, hF⟩ : ∃ F, accM G c2 n k = F := ⟨_, rfl⟩
      rw [hF] at HS
      clear hF
      obtain rfl : k = 100 := by omega
      go_wp2_with fail
      refine (listed_s h n n F (lst F n) _ hn3 HS.out.l rfl).mono ?_
      rintro e w2 ⟨v2, rfl, hv2, _, hb2⟩
      have HS2 := Lib.hid (HS.out.quiet hb2)
      have V2 := Lib.hid hv2
      clear hv2 hb2 HS
      go_wp2
      go_loopw [68] (fun i wr => ∃ k : Nat, k ≤ n ∧ i = .int .i64 k ∧ Hid (Below w2.heap.size w2 wr)) (fun i _ => n - (intOf i).toNat)
      case atStart => exact ⟨0, Nat.zero_le _, rfl, Below.refl _ _⟩
      case round =>
        obtain ⟨k2, hk2, rfl, HB⟩ := hrel
        have HS3 := Lib.hid (HS2.out.quiet HB.out)
        by_cases hlt2 : k2 < n
        · have hval := HS3.out.l.val hlt2
          cases hfk : F k2
          all_goals
            rw [hfk] at hval
            have HH := Lib.hid (has_in b g n F k2 wr HS3.out.s hlt2)
            rw [hfk] at HH
            clear hfk
            go_wp2_with fail
            refine HH.out.mono ?_
            rintro e w3 ⟨rfl, q, rfl⟩
            clear HH
            go_wp2
            go_roundw
            case rel => exact ⟨k2 + 1, by omega, by go_num, bel_drewN HB.out q⟩
            case measure => simp [intOf]; omega
        · obtain rfl : k2 = n := by omega
          have V3 := Lib.hid (V2.out.below HB.out)
          clear V2 HB HS2
          go_wp2_with fail
          refine (all_s b g k2 F (lst F k2) _ HS3.out.s HS3.out.t rfl).mono ?_
          rintro e w4 ⟨v4, rfl, hv4, _, hb4⟩
          have HS4 := Lib.hid (HS3.out.quiet hb4)
          have V4 := Lib.hid (V3.out.below hb4)
          have U4 := Lib.hid hv4
          clear hv4 hb4 HS3 V3
          go_wp2_with fail
          refine (equal_yes _ _ (lst F k2) _ U4.out V4.out).mono ?_
          rintro e w5 ⟨rfl, q5, rfl⟩
          have HS5 := Lib.hid (HS4.out.quiet (bel_drewN (Below.refl _ _) q5))
          obtain ⟨a5, c5, rfl, _, _⟩ := V4.out
          clear HS4 U4 V4
          generalize w4.drewN q5 = w6 at *
          obtain ⟨L, hL⟩ : ∃ L, (lst F k2).length = L := ⟨_, rfl⟩
          rw [hL]
          have HL := Lib.hid hL
          clear hL
          go_wp2_with fail
          refine (count_n b g k2 L F _ HS5.out.s HL.out).mono ?_
          rintro e w' ⟨rfl, rfl⟩
          go_wp2_with fail
          refine (size_ok b g k2 F _ HS5.out.s).mono ?_
          rintro e w' ⟨rfl, rfl⟩
          go_wp2_with fail
          refine (clear_ok b g k2 F _ HS5.out.s).mono ?_
          rintro e w7 ⟨rfl, hs7, hk7⟩
          have HS7 := Lib.hid (HS5.out.kg hk7 hs7)
          clear hs7 hk7 HS5
          go_wp2_with fail
          refine (count_n b g k2 0 _ _ HS7.out.s (by rw [lst_empty]; rfl)).mono ?_
          rintro e w' ⟨rfl, rfl⟩
          go_wp2_with fail
          refine (all_s b g k2 _ [] _ HS7.out.s HS7.out.t (lst_empty k2)).mono ?_
          rintro e w8 ⟨v8, rfl, ⟨a8, c8, rfl, _, _⟩, _, hb8⟩
          have HS8 := Lib.hid (HS7.out.quiet hb8)
          clear hb8 HS7
          go_wp2_with fail
          refine (size_ok b g k2 _ _ HS8.out.s).mono ?_
          rintro e w' ⟨rfl, rfl⟩
          go_wp2_with fail
          refine (works_ok _ HS8.out.t).mono ?_
          rintro e w9 ⟨rfl, hb9⟩
          go_wp2
          go_ret
          exact ⟨rfl, bel2 HS8.out.bel hb9⟩

set_option maxRecDepth 100000 in
set_option maxHeartbeats 8000000 in
theorem sets_gt (sz : Int) (a : Option Addr) (len cap : Nat) (c : Nat → Nat) (a2 : Option Addr) (len2 cap2 : Nat) (c2 : Nat → Nat) (n : Nat) (w : World) (hs0 : 0 ≤ sz) (hs1 : sz ≤ 65535) (hn : 1 + sz % 4096 = (n : Int)) (hu : U16s w a len cap c) (hu2 : U16s w a2 len2 cap2 c2) (hT : Tab w) (hc : 100 < len2) :
    Calls Tryd.prog 5 #[.int .u16 sz, .slice a len cap, .slice a2 len2 cap2] w fun e w' => e = .returned (.bool true) ∧ Below w.heap.size w w' := by
  have hn2 : 1 + sz.tmod 4096 = (n : Int) := by rw [Int.tmod_eq_emod_of_nonneg hs0]; exact hn
  have hn1 : 1 ≤ n := by omega
  have hn3 : n ≤ 4096 := by omega
  have HMADE := Lib.hid (made_ok n a len cap c w hn1 hn3 hu)
  have HT := Lib.hid hT
  have HU := Lib.hid hu2
  have hle := hu2.le
  have hcap := hu2.capB
  clear hT hu hu2
  go_enter Tryd.func5, Tryd.ntmps5
  go_wp2_with fail
  refine HMADE.out.mono ?_
  rintro e w1 ⟨b, g, h, p1, p2, p3, p4, rfl, hs, hl, hb⟩
  have ST : Hid (SSt w w1 b g h n (acc c n (min len 100)) (acc c n (min len 100))) := ⟨hs, hl, HT.out.below hb, hb, HT.out.lt, p1, p2, p3, p4⟩
  clear hs hl hb p1 p2 p3 p4 HMADE
  generalize acc c n (min len 100) = G at *
  clear hn hn2
  go_wp2
  go_loopw [37] (fun i wr => ∃ k : Nat, k ≤ 100 ∧ i = .int .i64 k ∧ Hid (SSt w wr b g h n (accM G c2 n k) (accM G c2 n k))) (fun i _ => 100 - (intOf i).toNat)
  case atStart => exact ⟨0, Nat.zero_le _, rfl, ST.out⟩
  case round =>
    obtain ⟨k, hk, rfl, HS⟩ := hrel
    by_cases hlt : k < 100
    · obtain ⟨B, off, rfl, hB, hcells⟩ := (HU.out.below HS.out.bel).at_ (by omega)
      have hcx := hcells k (by omega)
      have hx16 := HU.out.lt k (by omega)
      obtain ⟨j, hj⟩ : ∃ j, c2 k % n = j := ⟨_, rfl⟩
      have hjn : j < n := by rw [← hj]; exact Nat.mod_lt _ (by omega)
      have HACC : Hid (accM G c2 n (k + 1) = upd (accM G c2 n k) j (k % 3 == 2)) := by rw [← hj]; rfl
      generalize c2 k = x at *
      have e2 : (x : Int) % (n : Int) = (j : Int) := by
        have := congrArg (fun n : Nat => (n : Int)) hj
        simpa using this
      have e1 : (x : Int).tmod (n : Int) = (j : Int) := by rw [Int.tmod_eq_emod_of_nonneg (by omega)]; exact e2
      generalize accM G c2 n k = F at *
      have HJ := Lib.hid hj
      clear hj hcells
      go_wp2_with fail
      refine (remove_in b g n F j _ HS.out.s hjn).mono ?_
      rintro e w2 ⟨rfl, hs2, hk2⟩
      have HS2 := Lib.hid (HS.out.kg hk2 hs2)
      have hv := HS2.out.l.val hjn
      have hf := HS2.out.l.fz j
      have HS3 := Lib.hid (HS2.out.kh hjn false)
      clear hs2 hk2 hcx e1 e2
      by_cases hk3 : k % 3 = 2
      · have e3 : ((k : Int) % 3 == 2) = true := by simp; omega
        have e4 : ((k : Int).tmod 3 == 2) = true := by rw [Int.tmod_eq_emod_of_nonneg (by omega)]; exact e3
        have HK3 := Lib.hid hk3
        clear hk3
        go_wp2_with fail
        refine (add_in b g n _ j _ HS3.out.s hjn).mono ?_
        rintro e w4 ⟨rfl, hs4, hk4⟩
        have HS4 := Lib.hid (HS3.out.kg hk4 hs4)
        have hv2 := HS4.out.l.val hjn
        have hf2 := HS4.out.l.fz j
        have HS5 : Hid (SSt w (w4.setCell ⟨h, j, none⟩ (.bool true)) b g h n (accM G c2 n (k + 1)) (accM G c2 n (k + 1))) := by
          have h5 := HS4.out.kh hjn true
          simp only [upd_upd] at h5
          rw [HACC.out, HK3.out]; exact h5
        clear hs4 hk4 hv hf
        go_wp2
        go_roundw
        case rel => exact ⟨k + 1, by omega, by go_num, HS5.out⟩
        case measure => simp [intOf]; omega
      · have e3 : ((k : Int) % 3 == 2) = false := by simp; omega
        have e4 : ((k : Int).tmod 3 == 2) = false := by rw [Int.tmod_eq_emod_of_nonneg (by omega)]; exact e3
        have HS5 : Hid (SSt w (w2.setCell ⟨h, j, none⟩ (.bool false)) b g h n (accM G c2 n (k + 1)) (accM G c2 n (k + 1))) := by
          have e5 : (k % 3 == 2) = false := by simp [hk3]
          rw [HACC.out, e5]; exact HS3.out
        clear hk3
        go_wp2
        go_roundw
        case rel => exact ⟨k + 1, by omega, by go_num, HS5.out⟩
        case measure => simp [intOf]; omega
    · obtain ⟨F, hF⟩ : ∃ F, accM G c2 n k = F := ⟨_, rfl⟩
      rw [hF] at HS
      clear hF
      obtain rfl : k = 100 := by omega
      go_wp2_with fail
      refine (listed_s h n n F (lst F n) _ hn3 HS.out.l rfl).mono ?_
      rintro e w2 ⟨v2, rfl, hv2, _, hb2⟩
      have HS2 := Lib.hid (HS.out.quiet hb2)
      have V2 := Lib.hid hv2
      clear hv2 hb2 HS
      go_wp2
      go_loopw [68] (fun i wr => ∃ k : Nat, k ≤ n ∧ i = .int .i64 k ∧ Hid (Below w2.heap.size w2 wr)) (fun i _ => n - (intOf i).toNat)
      case atStart => exact ⟨0, Nat.zero_le _, rfl, Below.refl _ _⟩
      case round =>
        obtain ⟨k2, hk2, rfl, HB⟩ := hrel
        have HS3 := Lib.hid (HS2.out.quiet HB.out)
        by_cases hlt2 : k2 < n
        · have hval := HS3.out.l.val hlt2
          cases hfk : F k2
          all_goals
            rw [hfk] at hval
            have HH := Lib.hid (has_in b g n F k2 wr HS3.out.s hlt2)
            rw [hfk] at HH
            clear hfk
            go_wp2_with fail
            refine HH.out.mono ?_
            rintro e w3 ⟨rfl, q, rfl⟩
            clear HH
            go_wp2
            go_roundw
            case rel => exact ⟨k2 + 1, by omega, by go_num, bel_drewN HB.out q⟩
            case measure => simp [intOf]; omega
        · obtain rfl : k2 = n := by omega
          have V3 := Lib.hid (V2.out.below HB.out)
          clear V2 HB HS2
          go_wp2_with fail
          refine (all_s b g k2 F (lst F k2) _ HS3.out.s HS3.out.t rfl).mono ?_
          rintro e w4 ⟨v4, rfl, hv4, _, hb4⟩
          have HS4 := Lib.hid (HS3.out.quiet hb4)
          have V4 := Lib.hid (V3.out.below hb4)
          have U4 := Lib.hid hv4
          clear hv4 hb4 HS3 V3
          go_wp2_with fail
          refine (equal_yes _ _ (lst F k2) _ U4.out V4.out).mono ?_
          rintro e w5 ⟨rfl, q5, rfl⟩
          have HS5 := Lib.hid (HS4.out.quiet (bel_drewN (Below.refl _ _) q5))
          obtain ⟨a5, c5, rfl, _, _⟩ := V4.out
          clear HS4 U4 V4
          generalize w4.drewN q5 = w6 at *
          obtain ⟨L, hL⟩ : ∃ L, (lst F k2).length = L := ⟨_, rfl⟩
          rw [hL]
          have HL := Lib.hid hL
          clear hL
          go_wp2_with fail
          refine (count_n b g k2 L F _ HS5.out.s HL.out).mono ?_
          rintro e w' ⟨rfl, rfl⟩
          go_wp2_with fail
          refine (size_ok b g k2 F _ HS5.out.s).mono ?_
          rintro e w' ⟨rfl, rfl⟩
          go_wp2_with fail
          refine (clear_ok b g k2 F _ HS5.out.s).mono ?_
          rintro e w7 ⟨rfl, hs7, hk7⟩
          have HS7 := Lib.hid (HS5.out.kg hk7 hs7)
          clear hs7 hk7 HS5
          go_wp2_with fail
          refine (count_n b g k2 0 _ _ HS7.out.s (by rw [lst_empty]; rfl)).mono ?_
          rintro e w' ⟨rfl, rfl⟩
          go_wp2_with fail
          refine (all_s b g k2 _ [] _ HS7.out.s HS7.out.t (lst_empty k2)).mono ?_
          rintro e w8 ⟨v8, rfl, ⟨a8, c8, rfl, _, _⟩, _, hb8⟩
          have HS8 := Lib.hid (HS7.out.quiet hb8)
          clear hb8 HS7
          go_wp2_with fail
          refine (size_ok b g k2 _ _ HS8.out.s).mono ?_
          rintro e w' ⟨rfl, rfl⟩
          go_wp2_with fail
          refine (works_ok _ HS8.out.t).mono ?_
          rintro e w9 ⟨rfl, hb9⟩
          go_wp2
          go_ret
          exact ⟨rfl, bel2 HS8.out.bel hb9⟩

theorem sets_walk (sz : Int) (a : Option Addr) (len cap : Nat) (c : Nat → Nat) (a2 : Option Addr) (len2 cap2 : Nat) (c2 : Nat → Nat) (w : World) (hs0 : 0 ≤ sz) (hs1 : sz ≤ 65535) (hu : U16s w a len cap c) (hu2 : U16s w a2 len2 cap2 c2) (hT : Tab w) :
    Calls Tryd.prog 5 #[.int .u16 sz, .slice a len cap, .slice a2 len2 cap2] w fun e w' => e = .returned (.bool true) ∧ Below w.heap.size w w' := by
  obtain ⟨n, hn⟩ : ∃ n : Nat, 1 + sz % 4096 = (n : Int) := ⟨(1 + sz % 4096).toNat, by omega⟩
  by_cases h : len2 < 100
  · exact sets_lt sz a len cap c a2 len2 cap2 c2 n w hs0 hs1 hn hu hu2 hT h
  · by_cases h2 : len2 = 100
    · exact sets_eq sz a len cap c a2 len2 cap2 c2 n w hs0 hs1 hn hu hu2 hT h2
    · exact sets_gt sz a len cap c a2 len2 cap2 c2 n w hs0 hs1 hn hu hu2 hT (by omega)
end Go.Proofs.YtaenemdclmnnaaaDoor
