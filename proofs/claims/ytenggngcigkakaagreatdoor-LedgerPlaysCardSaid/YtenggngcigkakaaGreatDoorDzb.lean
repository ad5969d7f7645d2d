/- The contract of the document's parts where there is a mark behind the first byte; of parts for any text. -/
import Derived.Test.YtenggngcigkakaaGreatDoorDz
import Derived.Deep.RegionWith
namespace Go.Proofs.YtenggngcigkakaaGreatDoor
open Go.RowKit

theorem number_any (s : ByteArray) (hs : s.size ≤ 100000) (w : World) :
    Calls Tryz.prog 135 #[.string s] w fun e w' => NumRes s e ∧ Below w.heap.size w w' := by
  by_cases h : s.size = 0 ∨ 10 < s.size
  · exact number_len s w (by omega) h
  · exact number_loop s w (by omega) (by omega)

theorem first_byte (s : ByteArray) (h : 0 < s.size) : (s.extract 0 1).toList = [s[0]] := by
  rw [ByteArray.toList_eq, Lib.extract_eq]
  have hl := Lib.size_eq s
  have e0 : s.data.toList[0]'(by omega) = s[0] := rfl
  obtain ⟨c, r, hcr⟩ : ∃ c r, s.data.toList = c :: r := by
    cases hd : s.data.toList with
    | nil => rw [hd] at hl; simp only [List.length_nil] at hl; omega
    | cons c r => exact ⟨c, r, rfl⟩
  have e1 : s[0] = c := by rw [← e0]; simp [hcr]
  rw [e1, hcr]
  simp

/-- The parts of a text: what they say of it. -/
structure Split (m : UInt8) (s : ByteArray) (A : Nat) (c : UInt8) : Prop where
  eq : s.data.toList = c :: ((s.extract 1 A).data.toList ++ m :: (s.extract (A + 1) s.size).data.toList)
  no : ∀ x ∈ (s.extract 1 A).data.toList, x ≠ m
theorem Split.bad1 {m : UInt8} {s : ByteArray} {A : Nat} {c : UInt8} (h : Split m s A c) (hm : Mark m) (hn : NoNum (s.extract 1 A).data.toList) : ∀ N K P G : Nat, Okn N K P G → N ≤ 256 → s.data.toList ≠ txt m K P G := fun N K P G hO hN e => by
  obtain ⟨_, e2, _⟩ := txt_parts hm h.no (h.eq ▸ e)
  exact hn P (by have := hO.p1; omega) e2
theorem Split.bad2 {m : UInt8} {s : ByteArray} {A : Nat} {c : UInt8} (h : Split m s A c) (hm : Mark m) (hn : NoNum (s.extract (A + 1) s.size).data.toList) : ∀ N K P G : Nat, Okn N K P G → N ≤ 256 → s.data.toList ≠ txt m K P G := fun N K P G hO hN e => by
  obtain ⟨_, _, e3⟩ := txt_parts hm h.no (h.eq ▸ e)
  exact hn G hO.g2 e3
theorem Split.bad3 {m : UInt8} {s : ByteArray} {A : Nat} {c : UInt8} (h : Split m s A c) (hm : Mark m) (hn : kindOf c 4 = 0) : ∀ N K P G : Nat, Okn N K P G → N ≤ 256 → s.data.toList ≠ txt m K P G := fun N K P G hO hN e => by
  obtain ⟨e1, _, _⟩ := txt_parts hm h.no (h.eq ▸ e)
  rw [e1, kindOf_letter K hO.k1 hO.k3] at hn
  have := hO.k1
  omega
theorem Split.bad4 {m : UInt8} {s : ByteArray} {A : Nat} {c : UInt8} (h : Split m s A c) (hm : Mark m) {b : Nat} (hb : (s.extract (A + 1) s.size).data.toList = Lib.decDigits b) (hn : 4294967295 < b) : ∀ N K P G : Nat, Okn N K P G → N ≤ 256 → s.data.toList ≠ txt m K P G := fun N K P G hO hN e => by
  obtain ⟨_, _, e3⟩ := txt_parts hm h.no (h.eq ▸ e)
  rw [hb] at e3
  have := digits_inj e3
  have := hO.g2
  omega
theorem Split.good {m : UInt8} {s : ByteArray} {A : Nat} {c : UInt8} (h : Split m s A c) {a b : Nat} (ha : (s.extract 1 A).data.toList = Lib.decDigits a) (hb : (s.extract (A + 1) s.size).data.toList = Lib.decDigits b) (hk : 0 < kindOf c 4) : s.data.toList = txt m (kindOf c 4) a b := by
  rw [h.eq, ha, hb]
  unfold txt
  rw [← kindOf_pos c 4 hk]

set_option maxHeartbeats 2000000 in
set_option maxRecDepth 100000 in
theorem parts_main (m : UInt8) (hm : Mark m) (s : ByteArray) (A : Nat) (hA : AtM m s A) (he : A < s.size) (h2 : 2 ≤ A) (hs : s.size ≤ 100000) (w : World) :
    Calls Tryz.prog 116 #[.string s, .int .u8 m.toNat] w fun e w' => PartsV m s e ∧ Below w.heap.size w w' := by
  have HA := Lib.hid hA
  have HM := Lib.hid hm
  obtain ⟨c, hc⟩ : ∃ c, c = s[0]'(by omega) := ⟨_, rfl⟩
  have HSP : Hid (Split m s A c) := by
    obtain ⟨e1, e2⟩ := at_split hA he (by omega)
    exact ⟨by rw [hc]; exact e1, e2⟩
  have HF : Hid ((s.extract 0 1).toList = [c]) := by rw [hc]; exact first_byte s (by omega)
  have hA1 : (s.extract 1 A).size ≤ 100000 := by rw [Lib.extract_eq]; show (List.toArray _).size ≤ _; rw [List.size_toArray, List.length_take]; omega
  have hA2 : (s.extract (A + 1) s.size).size ≤ 100000 := by rw [Lib.extract_eq]; show (List.toArray _).size ≤ _; rw [List.size_toArray, List.length_take]; omega
  have HS1 := Lib.hid hA1
  have HS2 := Lib.hid hA2
  clear hA hm hc hA1 hA2
  have h1s : (1 : Int) ≤ (s.size : Int) := by omega
  go_enter Tryz.func116, Tryz.ntmps116
  go_wp2
  go_loop [8] (fun i => ∃ k : Nat, k ≤ A ∧ i = .int .i64 k) (fun i => A - (intOf i).toNat)
  case atStart => exact ⟨0, Nat.zero_le _, rfl⟩
  case round =>
    obtain ⟨k, hk, rfl⟩ := hrel
    by_cases hlt : k < A
    · have hks : k < s.size := by have := HA.out.1; omega
      have hne : s[k] ≠ m := HA.out.2.1 k hks hlt
      have hne1 : (((s[k].toNat : Int)) == (m.toNat : Int)) = false := by rw [beq_eq_false_iff_ne]; intro e; exact hne (UInt8.toNat_inj.1 (by omega))
      clear hne
      go_wp2
      go_round
      case rel => exact ⟨k + 1, by omega, by go_num⟩
      case measure => simp [intOf]; omega
    · obtain rfl : k = A := by omega
      have hme : s[k] = m := HA.out.2.2 he
      have hz : ((k : Int) == (s.size : Int)) = false := beq_eq_false_iff_ne.2 (by omega)
      go_wp2
      go_loopw [9, 10] (fun i q wr => ∃ j : Nat, 1 ≤ j ∧ j ≤ 4 ∧ q = .int .i64 j ∧ i = .int .i64 (kindOf c j) ∧ Hid (Below w.heap.size w wr)) (fun _ q _ => 4 - (intOf q).toNat)
      case atStart => exact ⟨1, by omega, by omega, rfl, rfl, Below.refl _ _⟩
      case round =>
        obtain ⟨j, hj1, hj4, rfl, rfl, HB⟩ := hrel
        by_cases hj : j < 4
        · by_cases hcj : c = letter j
          · have hk1 : kindOf c (j + 1) = j := by unfold kindOf; rw [if_neg (by omega), if_pos hcj]
            have hq : ((s.extract 0 1).toList == [letter j]) = true := by rw [HF.out, hcj]; simp
            have HK := Lib.hid hk1
            clear hk1 hcj
            go_wp2
            go_region_with (go_at_call 110; refine (letter_ok j hj1 (by omega) _).mono ?_; rintro e w3 ⟨rfl, rfl⟩)
            all_goals
              go_wp2
              go_roundw
              case rel => exact ⟨j + 1, by omega, by omega, by go_num, by rw [HK.out], bel2 HB.out (bel_dr _)⟩
              case measure => simp [intOf]; omega
          · have hk1 : kindOf c (j + 1) = kindOf c j := by rw [kindOf, if_neg (by omega), if_neg hcj]
            have hq : ((s.extract 0 1).toList == [letter j]) = false := by rw [HF.out, beq_eq_false_iff_ne]; intro e; exact hcj (by simpa using e)
            have HK := Lib.hid hk1
            clear hk1 hcj
            go_wp2
            go_region_with (go_at_call 110; refine (letter_ok j hj1 (by omega) _).mono ?_; rintro e w3 ⟨rfl, rfl⟩)
            all_goals
              go_wp2
              go_roundw
              case rel => exact ⟨j + 1, by omega, by omega, by go_num, by rw [HK.out], bel2 HB.out (bel_dr _)⟩
              case measure => simp [intOf]; omega
        · obtain rfl : j = 4 := by omega
          have hk4 := kindOf_le c 4
          have hk3 : kindOf c 4 ≤ 3 := by
            rcases Nat.lt_or_ge (kindOf c 4) 4 with h | h
            · omega
            · exfalso
              have := kindOf_pos c 4 (by omega)
              have h4 : kindOf c 4 = 4 := by omega
              unfold kindOf at h4
              simp at h4
              have := kindOf_le c 3
              split at h4 <;> omega
          obtain ⟨K, hK⟩ : ∃ K, K = kindOf c 4 := ⟨_, rfl⟩
          rw [← hK] at hk4 hk3 ⊢
          have HK4 := Lib.hid hK
          clear hK
          go_wp2_with fail
          refine (number_any (s.extract 1 k) HS1.out _).mono ?_
          rintro e w1 ⟨hn1, hb1⟩
          rcases hn1 with ⟨a, ha, ha2, rfl⟩ | ⟨a, ha, ha2, rfl⟩
          · have HN1 := Lib.hid ha2
            have HB1 := Lib.hid (bel2 HB.out hb1)
            clear ha2 hb1
            go_wp2_with fail
            refine (number_any (s.extract (k + 1) s.size) HS2.out _).mono ?_
            rintro e w2 ⟨hn2, hb2⟩
            have HB2 := Lib.hid (bel2 HB1.out hb2)
            clear hb2
            rcases hn2 with ⟨b, hb, hb2, rfl⟩ | ⟨b, hb, hb2, rfl⟩
            · have HN2 := Lib.hid hb2
              clear hb2
              by_cases hk0 : K = 0
              · subst hk0
                go_wp2
                refine bodyPost_ret (v := .tuple #[.int .i64 0, .int .u64 a, .int .u64 b, .bool false]) (by simp [results, Tryz.results116, go_sem]) rfl ⟨⟨0, a, b, false, hk3, ha, hb, rfl, (fun h => by cases h), fun _ => HSP.out.bad3 HM.out HK4.out.symm⟩, HB2.out⟩
              · have hkp : decide ((0 : Int) < (K : Int)) = true := decide_eq_true (by omega)
                go_wp2
                refine bodyPost_ret (v := .tuple #[.int .i64 K, .int .u64 a, .int .u64 b, .bool (decide ((b : Int) < 4294967296))]) (by simp [results, Tryz.results116, go_sem]) rfl ⟨⟨K, a, b, _, hk3, ha, hb, rfl, fun h => ?_, fun h => ?_⟩, HB2.out⟩
                · have hbb := of_decide_eq_true h
                  exact ⟨by omega, by omega, by rw [HK4.out]; exact HSP.out.good HN1.out HN2.out (by rw [← HK4.out]; omega)⟩
                · have hbb := of_decide_eq_false h
                  exact HSP.out.bad4 HM.out HN2.out (by omega)
            · have HN2 := Lib.hid hb2
              clear hb2
              go_wp2
              refine bodyPost_ret (v := .tuple #[.int .i64 (K), .int .u64 a, .int .u64 b, .bool false]) (by simp [results, Tryz.results116, go_sem]) rfl ⟨⟨K, a, b, false, hk3, ha, hb, rfl, (fun h => by cases h), fun _ => HSP.out.bad2 HM.out HN2.out⟩, HB2.out⟩
          · have HN1 := Lib.hid ha2
            have HB1 := Lib.hid (bel2 HB.out hb1)
            clear ha2 hb1
            go_wp2_with fail
            refine (number_any (s.extract (k + 1) s.size) HS2.out _).mono ?_
            rintro e w2 ⟨hn2, hb2⟩
            have HB2 := Lib.hid (bel2 HB1.out hb2)
            clear hb2
            rcases hn2 with ⟨b, hb, hb2, rfl⟩ | ⟨b, hb, hb2, rfl⟩
            all_goals
              clear hb2
              go_wp2
              refine bodyPost_ret (v := .tuple #[.int .i64 (K), .int .u64 a, .int .u64 b, .bool false]) (by simp [results, Tryz.results116, go_sem]) rfl ⟨⟨K, a, b, false, hk3, ha, hb, rfl, (fun h => by cases h), fun _ => HSP.out.bad1 HM.out HN1.out⟩, HB2.out⟩

theorem parts_any (m : UInt8) (hm : Mark m) (s : ByteArray) (hs : s.size ≤ 100000) (w : World) :
    Calls Tryz.prog 116 #[.string s, .int .u8 m.toNat] w fun e w' => PartsV m s e ∧ Below w.heap.size w w' := by
  obtain ⟨A, hA⟩ := at_mark m s
  by_cases h1 : A = s.size
  · exact parts_end m s A hA h1 hs w
  · have h2 : A < s.size := by have := hA.1; omega
    by_cases h3 : A < 2
    · exact parts_small m hm s A hA h2 h3 hs w
    · exact parts_main m hm s A hA h2 (by omega) hs w
end Go.Proofs.YtenggngcigkakaaGreatDoor
