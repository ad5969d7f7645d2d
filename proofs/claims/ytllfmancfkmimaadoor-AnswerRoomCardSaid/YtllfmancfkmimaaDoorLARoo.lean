/- The walk of the statement AnswerRoom: it returns true for all numbers. -/
import Derived.Test.YtllfmancfkmimaaDoorAp
namespace Go.Proofs.YtllfmancfkmimaaDoor
open Go.RowKit

/-- Adding n times the same letter. -/
theorem pE_rep {b : UInt8} {n : Nat} (hb : num b.toNat ≠ 0) (h : n ≤ 2000) : pE (List.replicate n b) = 0 := pE_ok (by simpa using h) (fun x hx => by rw [(List.mem_replicate.1 hx).2]; exact hb)
theorem aE_rep {b : UInt8} {n : Nat} (L : List Int) (hb : num b.toNat ≠ 0) : aE L (List.replicate n b) = if L.length + n ≤ 2000 then 0 else 11 := by
  by_cases h : n ≤ 2000
  · by_cases h2 : L.length + n ≤ 2000
    · rw [if_pos h2, aE_ok (pE_rep hb h) (by simpa using h2)]
    · rw [if_neg h2, aE_many (pE_rep hb h) (by simp; omega)]
  · rw [if_neg (by omega)]
    have hp : pE (List.replicate n b) = 11 := pE_many (by simp; omega)
    rw [aE_parse (by rw [hp]; decide), hp]
theorem aL_rep {b : UInt8} {n : Nat} (L : List Int) (hb : num b.toNat ≠ 0) : (aL L (List.replicate n b)).length = if L.length + n ≤ 2000 then L.length + n else L.length := by
  by_cases h2 : L.length + n ≤ 2000
  · rw [if_pos h2, aL_ok (by rw [aE_rep L hb, if_pos h2]), List.length_append, nums_length, List.length_replicate]
  · rw [if_neg h2, aL_no (by rw [aE_rep L hb, if_neg h2]; decide)]

theorem ofs_s (n x : Nat) (b : UInt8) (w : World) (hn : n ≤ 2010) (hx : (x : Int) = (b.toNat : Int)) : Calls Tryd.prog 30 #[.int .i64 n, .int .u8 x] w fun e w' =>
    ∃ v, e = .returned v ∧ (∀ q, (convert 47 9 v).run Tryd.prog (w'.drewN q) = .ok (.string (str (List.replicate n b))) (w'.drewN q)) ∧ (convert 47 9 v).run Tryd.prog w' = .ok (.string (str (List.replicate n b))) w' ∧ Below w.heap.size w w' :=
  (ofs_ok n x b w hn hx).mono fun _ w' ⟨v, h1, h2, h3⟩ => ⟨v, h1, fun q => conv_own (W := w'.drewN q) h2, conv_own h2, h3⟩

set_option maxRecDepth 100000 in
set_option maxHeartbeats 8000000 in
theorem aRoo_a1 (f t m : Int) (N K M : Nat) (w : World) (hf : 0 ≤ f) (hf2 : f ≤ 65535) (ht : 0 ≤ t) (ht2 : t ≤ 65535) (hm : 0 ≤ m) (hm2 : m ≤ 65535) (hN : f % 2010 = N) (hK : t % 2010 = K) (hM : m % 2010 = M) (hN2 : N ≤ 2000) (hKN : K < N) (hfit : ((N - K) + M ≤ 2000)) (he : Env w) :
    Calls Tryd.prog 9 #[.int .u16 f, .int .u16 t, .int .u16 m] w fun e w' => e = .returned (.bool true) ∧ Below w.heap.size w w' := by
  have hN1 : f.tmod 2010 = N := by rw [Int.tmod_eq_emod_of_nonneg hf]; exact hN
  have hK1 : t.tmod 2010 = K := by rw [Int.tmod_eq_emod_of_nonneg ht]; exact hK
  have hM1 : m.tmod 2010 = M := by rw [Int.tmod_eq_emod_of_nonneg hm]; exact hM
  have hMl : M < 2010 := by omega
  have hKl : K < 2010 := by omega
  have hNl : N < 2010 := by omega
  have hA1 := aE_rep (b := 108) (n := N) [] (by decide)
  have hA2 := aL_rep (b := 108) (n := N) [] (by decide)
  rw [if_pos (by simp; omega)] at hA1 hA2
  simp only [List.length_nil, Nat.zero_add] at hA2
  obtain ⟨L1, hL1⟩ : ∃ L1, aL [] (List.replicate N 108) = L1 := ⟨_, rfl⟩
  rw [hL1] at hA2
  have HA := Lib.hid (And.intro hA1 (And.intro hL1 hA2))
  have HE := Lib.hid he
  clear he hA1 hL1 hA2
  go_enter Tryd.func9, Tryd.ntmps9
  go_wp2_with fail
  refine (St.new HE.out).mono ?_
  rintro e w1 ⟨b, rfl, h1⟩
  have H1 := Lib.hid h1
  clear h1
  go_wp2_with fail
  refine (ofs_s N 108 108 _ (by omega) (by decide)).mono ?_
  rintro e w2 ⟨v, rfl, _, hcv, hb2⟩
  have H2 := Lib.hid (H1.out.below hb2)
  clear hb2 H1 hN1 hN
  go_wp2_with fail
  refine (H2.out.add _ (str_data _) (by rw [str_size, List.length_replicate]; omega) HA.out.1 HA.out.2.1).mono ?_
  rintro e w3 ⟨rfl, h3, _⟩
  have H3 := Lib.hid h3
  clear h3 H2 hcv
  go_wp2
  go_loopw [11] (fun i wr => ∃ (k : Nat) (L : List Int), k ≤ K ∧ i = .int .i64 k ∧ Hid (L.length = N - k) ∧ Hid (St w wr b L)) (fun i _ => K - (intOf i).toNat)
  case atStart => exact ⟨0, L1, Nat.zero_le _, rfl, HA.out.2.2, H3.out⟩
  case round =>
    obtain ⟨k, L, hk, rfl, HL, HS⟩ := hrel
    by_cases hlt : k < K
    · go_wp2_with fail
      refine (HS.out.next rfl rfl).mono ?_
      rintro e w4 ⟨rfl, h4, _⟩
      have H4 := Lib.hid h4
      clear h4
      go_wp2
      go_roundw
      case rel => exact ⟨k + 1, L.tail, by omega, by go_num, by have h := HL.out; unfold Hid; rw [List.length_tail, h]; omega, H4.out⟩
      case measure => simp [intOf]; omega
    · obtain rfl : k = K := by omega
      have hLl := HL.out
      have HLl : Hid (L.length = (N - k)) := by have h := HL.out; unfold Hid; omega
      have hB1 := aE_rep (b := 102) (n := M) L (by decide)
      have hB2 := aL_rep (b := 102) (n := M) L (by decide)
      rw [if_pos (by have h := HLl.out; omega)] at hB1 hB2
      obtain ⟨L2, hL2⟩ : ∃ L2, aL L (List.replicate M 102) = L2 := ⟨_, rfl⟩
      rw [hL2] at hB2
      have HB := Lib.hid (And.intro hB1 (And.intro hL2 hB2))
      clear hB1 hB2 hL2 hLl hlt
      have hsub : (N : Int) - (k : Int) = ((N - k : Nat) : Int) := by omega
      have hpos : 0 < N - k := by omega
      go_wp2_with fail
      refine (ofs_s M 102 102 _ (by omega) (by decide)).mono ?_
      rintro e w5 ⟨v5, rfl, _, hcv, hb5⟩
      have H5 := Lib.hid (HS.out.below hb5)
      clear hb5 hM1 hM
      go_wp2_with fail
      refine (H5.out.add _ (str_data _) (by rw [str_size, List.length_replicate]; omega) HB.out.1 HB.out.2.1).mono ?_
      rintro e w6 ⟨rfl, h6, _⟩
      have H6 := Lib.hid h6
      clear h6 H5 hcv
      go_wp2_with fail
      refine (H6.out.left (n := (N - k) + M) (by have h1 := HB.out.2.2; have h2 := HLl.out; omega)).mono ?_
      rintro e w' ⟨rfl, rfl⟩
      go_wp2_with fail
      refine (works_ok _ H6.out.e).mono ?_
      rintro e w7 ⟨rfl, hb7⟩
      go_wp2
      go_ret
      exact ⟨rfl, bel2 H6.out.bel hb7⟩
set_option maxRecDepth 100000 in
set_option maxHeartbeats 8000000 in
theorem aRoo_a2 (f t m : Int) (N K M : Nat) (w : World) (hf : 0 ≤ f) (hf2 : f ≤ 65535) (ht : 0 ≤ t) (ht2 : t ≤ 65535) (hm : 0 ≤ m) (hm2 : m ≤ 65535) (hN : f % 2010 = N) (hK : t % 2010 = K) (hM : m % 2010 = M) (hN2 : N ≤ 2000) (hKN : K < N) (hfit : ¬ ((N - K) + M ≤ 2000)) (he : Env w) :
    Calls Tryd.prog 9 #[.int .u16 f, .int .u16 t, .int .u16 m] w fun e w' => e = .returned (.bool true) ∧ Below w.heap.size w w' := by
  have hN1 : f.tmod 2010 = N := by rw [Int.tmod_eq_emod_of_nonneg hf]; exact hN
  have hK1 : t.tmod 2010 = K := by rw [Int.tmod_eq_emod_of_nonneg ht]; exact hK
  have hM1 : m.tmod 2010 = M := by rw [Int.tmod_eq_emod_of_nonneg hm]; exact hM
  have hMl : M < 2010 := by omega
  have hKl : K < 2010 := by omega
  have hNl : N < 2010 := by omega
  have hA1 := aE_rep (b := 108) (n := N) [] (by decide)
  have hA2 := aL_rep (b := 108) (n := N) [] (by decide)
  rw [if_pos (by simp; omega)] at hA1 hA2
  simp only [List.length_nil, Nat.zero_add] at hA2
  obtain ⟨L1, hL1⟩ : ∃ L1, aL [] (List.replicate N 108) = L1 := ⟨_, rfl⟩
  rw [hL1] at hA2
  have HA := Lib.hid (And.intro hA1 (And.intro hL1 hA2))
  have HE := Lib.hid he
  clear he hA1 hL1 hA2
  go_enter Tryd.func9, Tryd.ntmps9
  go_wp2_with fail
  refine (St.new HE.out).mono ?_
  rintro e w1 ⟨b, rfl, h1⟩
  have H1 := Lib.hid h1
  clear h1
  go_wp2_with fail
  refine (ofs_s N 108 108 _ (by omega) (by decide)).mono ?_
  rintro e w2 ⟨v, rfl, _, hcv, hb2⟩
  have H2 := Lib.hid (H1.out.below hb2)
  clear hb2 H1 hN1 hN
  go_wp2_with fail
  refine (H2.out.add _ (str_data _) (by rw [str_size, List.length_replicate]; omega) HA.out.1 HA.out.2.1).mono ?_
  rintro e w3 ⟨rfl, h3, _⟩
  have H3 := Lib.hid h3
  clear h3 H2 hcv
  go_wp2
  go_loopw [11] (fun i wr => ∃ (k : Nat) (L : List Int), k ≤ K ∧ i = .int .i64 k ∧ Hid (L.length = N - k) ∧ Hid (St w wr b L)) (fun i _ => K - (intOf i).toNat)
  case atStart => exact ⟨0, L1, Nat.zero_le _, rfl, HA.out.2.2, H3.out⟩
  case round =>
    obtain ⟨k, L, hk, rfl, HL, HS⟩ := hrel
    by_cases hlt : k < K
    · go_wp2_with fail
      refine (HS.out.next rfl rfl).mono ?_
      rintro e w4 ⟨rfl, h4, _⟩
      have H4 := Lib.hid h4
      clear h4
      go_wp2
      go_roundw
      case rel => exact ⟨k + 1, L.tail, by omega, by go_num, by have h := HL.out; unfold Hid; rw [List.length_tail, h]; omega, H4.out⟩
      case measure => simp [intOf]; omega
    · obtain rfl : k = K := by omega
      have hLl := HL.out
      have HLl : Hid (L.length = (N - k)) := by have h := HL.out; unfold Hid; omega
      have hB1 := aE_rep (b := 102) (n := M) L (by decide)
      have hB2 := aL_rep (b := 102) (n := M) L (by decide)
      rw [if_neg (by have h := HLl.out; omega)] at hB1 hB2
      obtain ⟨L2, hL2⟩ : ∃ L2, aL L (List.replicate M 102) = L2 := ⟨_, rfl⟩
      rw [hL2] at hB2
      have HB := Lib.hid (And.intro hB1 (And.intro hL2 hB2))
      clear hB1 hB2 hL2 hLl hlt
      have hsub : (N : Int) - (k : Int) = ((N - k : Nat) : Int) := by omega
      have hpos : 0 < N - k := by omega
      go_wp2_with fail
      refine (ofs_s M 102 102 _ (by omega) (by decide)).mono ?_
      rintro e w5 ⟨v5, rfl, _, hcv, hb5⟩
      have H5 := Lib.hid (HS.out.below hb5)
      clear hb5 hM1 hM
      go_wp2_with fail
      refine (H5.out.add _ (str_data _) (by rw [str_size, List.length_replicate]; omega) HB.out.1 HB.out.2.1).mono ?_
      rintro e w6 ⟨rfl, h6, _⟩
      have H6 := Lib.hid h6
      clear h6 H5 hcv
      go_wp2_with fail
      refine (H6.out.left (n := (N - k)) (by have h1 := HB.out.2.2; have h2 := HLl.out; omega)).mono ?_
      rintro e w' ⟨rfl, rfl⟩
      go_wp2_with fail
      refine (works_ok _ H6.out.e).mono ?_
      rintro e w7 ⟨rfl, hb7⟩
      go_wp2
      go_ret
      exact ⟨rfl, bel2 H6.out.bel hb7⟩
set_option maxRecDepth 100000 in
set_option maxHeartbeats 8000000 in
theorem aRoo_b1 (f t m : Int) (N K M : Nat) (w : World) (hf : 0 ≤ f) (hf2 : f ≤ 65535) (ht : 0 ≤ t) (ht2 : t ≤ 65535) (hm : 0 ≤ m) (hm2 : m ≤ 65535) (hN : f % 2010 = N) (hK : t % 2010 = K) (hM : m % 2010 = M) (hN2 : N ≤ 2000) (hKN : N ≤ K) (hfit : (0 + M ≤ 2000)) (he : Env w) :
    Calls Tryd.prog 9 #[.int .u16 f, .int .u16 t, .int .u16 m] w fun e w' => e = .returned (.bool true) ∧ Below w.heap.size w w' := by
  have hN1 : f.tmod 2010 = N := by rw [Int.tmod_eq_emod_of_nonneg hf]; exact hN
  have hK1 : t.tmod 2010 = K := by rw [Int.tmod_eq_emod_of_nonneg ht]; exact hK
  have hM1 : m.tmod 2010 = M := by rw [Int.tmod_eq_emod_of_nonneg hm]; exact hM
  have hMl : M < 2010 := by omega
  have hKl : K < 2010 := by omega
  have hNl : N < 2010 := by omega
  have hA1 := aE_rep (b := 108) (n := N) [] (by decide)
  have hA2 := aL_rep (b := 108) (n := N) [] (by decide)
  rw [if_pos (by simp; omega)] at hA1 hA2
  simp only [List.length_nil, Nat.zero_add] at hA2
  obtain ⟨L1, hL1⟩ : ∃ L1, aL [] (List.replicate N 108) = L1 := ⟨_, rfl⟩
  rw [hL1] at hA2
  have HA := Lib.hid (And.intro hA1 (And.intro hL1 hA2))
  have HE := Lib.hid he
  clear he hA1 hL1 hA2
  go_enter Tryd.func9, Tryd.ntmps9
  go_wp2_with fail
  refine (St.new HE.out).mono ?_
  rintro e w1 ⟨b, rfl, h1⟩
  have H1 := Lib.hid h1
  clear h1
  go_wp2_with fail
  refine (ofs_s N 108 108 _ (by omega) (by decide)).mono ?_
  rintro e w2 ⟨v, rfl, _, hcv, hb2⟩
  have H2 := Lib.hid (H1.out.below hb2)
  clear hb2 H1 hN1 hN
  go_wp2_with fail
  refine (H2.out.add _ (str_data _) (by rw [str_size, List.length_replicate]; omega) HA.out.1 HA.out.2.1).mono ?_
  rintro e w3 ⟨rfl, h3, _⟩
  have H3 := Lib.hid h3
  clear h3 H2 hcv
  go_wp2
  go_loopw [11] (fun i wr => ∃ (k : Nat) (L : List Int), k ≤ K ∧ i = .int .i64 k ∧ Hid (L.length = N - k) ∧ Hid (St w wr b L)) (fun i _ => K - (intOf i).toNat)
  case atStart => exact ⟨0, L1, Nat.zero_le _, rfl, HA.out.2.2, H3.out⟩
  case round =>
    obtain ⟨k, L, hk, rfl, HL, HS⟩ := hrel
    by_cases hlt : k < K
    · go_wp2_with fail
      refine (HS.out.next rfl rfl).mono ?_
      rintro e w4 ⟨rfl, h4, _⟩
      have H4 := Lib.hid h4
      clear h4
      go_wp2
      go_roundw
      case rel => exact ⟨k + 1, L.tail, by omega, by go_num, by have h := HL.out; unfold Hid; rw [List.length_tail, h]; omega, H4.out⟩
      case measure => simp [intOf]; omega
    · obtain rfl : k = K := by omega
      have hLl := HL.out
      have HLl : Hid (L.length = 0) := by have h := HL.out; unfold Hid; omega
      have hB1 := aE_rep (b := 102) (n := M) L (by decide)
      have hB2 := aL_rep (b := 102) (n := M) L (by decide)
      rw [if_pos (by have h := HLl.out; omega)] at hB1 hB2
      obtain ⟨L2, hL2⟩ : ∃ L2, aL L (List.replicate M 102) = L2 := ⟨_, rfl⟩
      rw [hL2] at hB2
      have HB := Lib.hid (And.intro hB1 (And.intro hL2 hB2))
      clear hB1 hB2 hL2 hLl hlt
      have hpos : ¬ (0 < (N : Int) - (k : Int)) := by omega
      go_wp2_with fail
      refine (ofs_s M 102 102 _ (by omega) (by decide)).mono ?_
      rintro e w5 ⟨v5, rfl, _, hcv, hb5⟩
      have H5 := Lib.hid (HS.out.below hb5)
      clear hb5 hM1 hM
      go_wp2_with fail
      refine (H5.out.add _ (str_data _) (by rw [str_size, List.length_replicate]; omega) HB.out.1 HB.out.2.1).mono ?_
      rintro e w6 ⟨rfl, h6, _⟩
      have H6 := Lib.hid h6
      clear h6 H5 hcv
      go_wp2_with fail
      refine (H6.out.left (n := 0 + M) (by have h1 := HB.out.2.2; have h2 := HLl.out; omega)).mono ?_
      rintro e w' ⟨rfl, rfl⟩
      go_wp2_with fail
      refine (works_ok _ H6.out.e).mono ?_
      rintro e w7 ⟨rfl, hb7⟩
      go_wp2
      go_ret
      exact ⟨rfl, bel2 H6.out.bel hb7⟩
set_option maxRecDepth 100000 in
set_option maxHeartbeats 8000000 in
theorem aRoo_b2 (f t m : Int) (N K M : Nat) (w : World) (hf : 0 ≤ f) (hf2 : f ≤ 65535) (ht : 0 ≤ t) (ht2 : t ≤ 65535) (hm : 0 ≤ m) (hm2 : m ≤ 65535) (hN : f % 2010 = N) (hK : t % 2010 = K) (hM : m % 2010 = M) (hN2 : N ≤ 2000) (hKN : N ≤ K) (hfit : ¬ (0 + M ≤ 2000)) (he : Env w) :
    Calls Tryd.prog 9 #[.int .u16 f, .int .u16 t, .int .u16 m] w fun e w' => e = .returned (.bool true) ∧ Below w.heap.size w w' := by
  have hN1 : f.tmod 2010 = N := by rw [Int.tmod_eq_emod_of_nonneg hf]; exact hN
  have hK1 : t.tmod 2010 = K := by rw [Int.tmod_eq_emod_of_nonneg ht]; exact hK
  have hM1 : m.tmod 2010 = M := by rw [Int.tmod_eq_emod_of_nonneg hm]; exact hM
  have hMl : M < 2010 := by omega
  have hKl : K < 2010 := by omega
  have hNl : N < 2010 := by omega
  have hA1 := aE_rep (b := 108) (n := N) [] (by decide)
  have hA2 := aL_rep (b := 108) (n := N) [] (by decide)
  rw [if_pos (by simp; omega)] at hA1 hA2
  simp only [List.length_nil, Nat.zero_add] at hA2
  obtain ⟨L1, hL1⟩ : ∃ L1, aL [] (List.replicate N 108) = L1 := ⟨_, rfl⟩
  rw [hL1] at hA2
  have HA := Lib.hid (And.intro hA1 (And.intro hL1 hA2))
  have HE := Lib.hid he
  clear he hA1 hL1 hA2
  go_enter Tryd.func9, Tryd.ntmps9
  go_wp2_with fail
  refine (St.new HE.out).mono ?_
  rintro e w1 ⟨b, rfl, h1⟩
  have H1 := Lib.hid h1
  clear h1
  go_wp2_with fail
  refine (ofs_s N 108 108 _ (by omega) (by decide)).mono ?_
  rintro e w2 ⟨v, rfl, _, hcv, hb2⟩
  have H2 := Lib.hid (H1.out.below hb2)
  clear hb2 H1 hN1 hN
  go_wp2_with fail
  refine (H2.out.add _ (str_data _) (by rw [str_size, List.length_replicate]; omega) HA.out.1 HA.out.2.1).mono ?_
  rintro e w3 ⟨rfl, h3, _⟩
  have H3 := Lib.hid h3
  clear h3 H2 hcv
  go_wp2
  go_loopw [11] (fun i wr => ∃ (k : Nat) (L : List Int), k ≤ K ∧ i = .int .i64 k ∧ Hid (L.length = N - k) ∧ Hid (St w wr b L)) (fun i _ => K - (intOf i).toNat)
  case atStart => exact ⟨0, L1, Nat.zero_le _, rfl, HA.out.2.2, H3.out⟩
  case round =>
    obtain ⟨k, L, hk, rfl, HL, HS⟩ := hrel
    by_cases hlt : k < K
    · go_wp2_with fail
      refine (HS.out.next rfl rfl).mono ?_
      rintro e w4 ⟨rfl, h4, _⟩
      have H4 := Lib.hid h4
      clear h4
      go_wp2
      go_roundw
      case rel => exact ⟨k + 1, L.tail, by omega, by go_num, by have h := HL.out; unfold Hid; rw [List.length_tail, h]; omega, H4.out⟩
      case measure => simp [intOf]; omega
    · obtain rfl : k = K := by omega
      have hLl := HL.out
      have HLl : Hid (L.length = 0) := by have h := HL.out; unfold Hid; omega
      have hB1 := aE_rep (b := 102) (n := M) L (by decide)
      have hB2 := aL_rep (b := 102) (n := M) L (by decide)
      rw [if_neg (by have h := HLl.out; omega)] at hB1 hB2
      obtain ⟨L2, hL2⟩ : ∃ L2, aL L (List.replicate M 102) = L2 := ⟨_, rfl⟩
      rw [hL2] at hB2
      have HB := Lib.hid (And.intro hB1 (And.intro hL2 hB2))
      clear hB1 hB2 hL2 hLl hlt
      have hpos : ¬ (0 < (N : Int) - (k : Int)) := by omega
      go_wp2_with fail
      refine (ofs_s M 102 102 _ (by omega) (by decide)).mono ?_
      rintro e w5 ⟨v5, rfl, _, hcv, hb5⟩
      have H5 := Lib.hid (HS.out.below hb5)
      clear hb5 hM1 hM
      go_wp2_with fail
      refine (H5.out.add _ (str_data _) (by rw [str_size, List.length_replicate]; omega) HB.out.1 HB.out.2.1).mono ?_
      rintro e w6 ⟨rfl, h6, _⟩
      have H6 := Lib.hid h6
      clear h6 H5 hcv
      go_wp2_with fail
      refine (H6.out.left (n := 0) (by have h1 := HB.out.2.2; have h2 := HLl.out; omega)).mono ?_
      rintro e w' ⟨rfl, rfl⟩
      go_wp2_with fail
      refine (works_ok _ H6.out.e).mono ?_
      rintro e w7 ⟨rfl, hb7⟩
      go_wp2
      go_ret
      exact ⟨rfl, bel2 H6.out.bel hb7⟩
set_option maxRecDepth 100000 in
set_option maxHeartbeats 8000000 in
theorem aRoo_c1 (f t m : Int) (N K M : Nat) (w : World) (hf : 0 ≤ f) (hf2 : f ≤ 65535) (ht : 0 ≤ t) (ht2 : t ≤ 65535) (hm : 0 ≤ m) (hm2 : m ≤ 65535) (hN : f % 2010 = N) (hK : t % 2010 = K) (hM : m % 2010 = M) (hN2 : ¬ N ≤ 2000) (hfit : (0 + M ≤ 2000)) (he : Env w) :
    Calls Tryd.prog 9 #[.int .u16 f, .int .u16 t, .int .u16 m] w fun e w' => e = .returned (.bool true) ∧ Below w.heap.size w w' := by
  have hN1 : f.tmod 2010 = N := by rw [Int.tmod_eq_emod_of_nonneg hf]; exact hN
  have hK1 : t.tmod 2010 = K := by rw [Int.tmod_eq_emod_of_nonneg ht]; exact hK
  have hM1 : m.tmod 2010 = M := by rw [Int.tmod_eq_emod_of_nonneg hm]; exact hM
  have hMl : M < 2010 := by omega
  have hKl : K < 2010 := by omega
  have hNl : N < 2010 := by omega
  have hA1 := aE_rep (b := 108) (n := N) [] (by decide)
  have hA2 := aL_rep (b := 108) (n := N) [] (by decide)
  rw [if_neg (by simp; omega)] at hA1 hA2
  simp only [List.length_nil] at hA2
  obtain ⟨L1, hL1⟩ : ∃ L1, aL [] (List.replicate N 108) = L1 := ⟨_, rfl⟩
  rw [hL1] at hA2
  have HA := Lib.hid (And.intro hA1 (And.intro hL1 hA2))
  have HE := Lib.hid he
  clear he hA1 hL1 hA2
  go_enter Tryd.func9, Tryd.ntmps9
  go_wp2_with fail
  refine (St.new HE.out).mono ?_
  rintro e w1 ⟨b, rfl, h1⟩
  have H1 := Lib.hid h1
  clear h1
  go_wp2_with fail
  refine (ofs_s N 108 108 _ (by omega) (by decide)).mono ?_
  rintro e w2 ⟨v, rfl, _, hcv, hb2⟩
  have H2 := Lib.hid (H1.out.below hb2)
  clear hb2 H1 hN1 hN
  go_wp2_with fail
  refine (H2.out.add _ (str_data _) (by rw [str_size, List.length_replicate]; omega) HA.out.1 HA.out.2.1).mono ?_
  rintro e w3 ⟨rfl, h3, _⟩
  have H3 := Lib.hid h3
  clear h3 H2 hcv
  go_wp2_with fail
  refine (H3.out.left (n := 0) HA.out.2.2).mono ?_
  rintro e w' ⟨rfl, rfl⟩
  go_wp2
  go_loopw [11] (fun i wr => ∃ (k : Nat) (L : List Int), k ≤ K ∧ i = .int .i64 k ∧ Hid (L.length = 0 - k) ∧ Hid (St w wr b L)) (fun i _ => K - (intOf i).toNat)
  case atStart => exact ⟨0, L1, Nat.zero_le _, rfl, HA.out.2.2, H3.out⟩
  case round =>
    obtain ⟨k, L, hk, rfl, HL, HS⟩ := hrel
    by_cases hlt : k < K
    · go_wp2_with fail
      refine (HS.out.next rfl rfl).mono ?_
      rintro e w4 ⟨rfl, h4, _⟩
      have H4 := Lib.hid h4
      clear h4
      go_wp2
      go_roundw
      case rel => exact ⟨k + 1, L.tail, by omega, by go_num, by have h := HL.out; unfold Hid; rw [List.length_tail, h]; omega, H4.out⟩
      case measure => simp [intOf]; omega
    · obtain rfl : k = K := by omega
      have hLl := HL.out
      have HLl : Hid (L.length = 0) := by have h := HL.out; unfold Hid; omega
      have hB1 := aE_rep (b := 102) (n := M) L (by decide)
      have hB2 := aL_rep (b := 102) (n := M) L (by decide)
      rw [if_pos (by have h := HLl.out; omega)] at hB1 hB2
      obtain ⟨L2, hL2⟩ : ∃ L2, aL L (List.replicate M 102) = L2 := ⟨_, rfl⟩
      rw [hL2] at hB2
      have HB := Lib.hid (And.intro hB1 (And.intro hL2 hB2))
      clear hB1 hB2 hL2 hLl hlt
      have hpos : ¬ (0 < (0 : Int) - (k : Int)) := by omega
      go_wp2_with fail
      refine (ofs_s M 102 102 _ (by omega) (by decide)).mono ?_
      rintro e w5 ⟨v5, rfl, _, hcv, hb5⟩
      have H5 := Lib.hid (HS.out.below hb5)
      clear hb5 hM1 hM
      go_wp2_with fail
      refine (H5.out.add _ (str_data _) (by rw [str_size, List.length_replicate]; omega) HB.out.1 HB.out.2.1).mono ?_
      rintro e w6 ⟨rfl, h6, _⟩
      have H6 := Lib.hid h6
      clear h6 H5 hcv
      go_wp2_with fail
      refine (H6.out.left (n := 0 + M) (by have h1 := HB.out.2.2; have h2 := HLl.out; omega)).mono ?_
      rintro e w' ⟨rfl, rfl⟩
      go_wp2_with fail
      refine (works_ok _ H6.out.e).mono ?_
      rintro e w7 ⟨rfl, hb7⟩
      go_wp2
      go_ret
      exact ⟨rfl, bel2 H6.out.bel hb7⟩
set_option maxRecDepth 100000 in
set_option maxHeartbeats 8000000 in
theorem aRoo_c2 (f t m : Int) (N K M : Nat) (w : World) (hf : 0 ≤ f) (hf2 : f ≤ 65535) (ht : 0 ≤ t) (ht2 : t ≤ 65535) (hm : 0 ≤ m) (hm2 : m ≤ 65535) (hN : f % 2010 = N) (hK : t % 2010 = K) (hM : m % 2010 = M) (hN2 : ¬ N ≤ 2000) (hfit : ¬ (0 + M ≤ 2000)) (he : Env w) :
    Calls Tryd.prog 9 #[.int .u16 f, .int .u16 t, .int .u16 m] w fun e w' => e = .returned (.bool true) ∧ Below w.heap.size w w' := by
  have hN1 : f.tmod 2010 = N := by rw [Int.tmod_eq_emod_of_nonneg hf]; exact hN
  have hK1 : t.tmod 2010 = K := by rw [Int.tmod_eq_emod_of_nonneg ht]; exact hK
  have hM1 : m.tmod 2010 = M := by rw [Int.tmod_eq_emod_of_nonneg hm]; exact hM
  have hMl : M < 2010 := by omega
  have hKl : K < 2010 := by omega
  have hNl : N < 2010 := by omega
  have hA1 := aE_rep (b := 108) (n := N) [] (by decide)
  have hA2 := aL_rep (b := 108) (n := N) [] (by decide)
  rw [if_neg (by simp; omega)] at hA1 hA2
  simp only [List.length_nil] at hA2
  obtain ⟨L1, hL1⟩ : ∃ L1, aL [] (List.replicate N 108) = L1 := ⟨_, rfl⟩
  rw [hL1] at hA2
  have HA := Lib.hid (And.intro hA1 (And.intro hL1 hA2))
  have HE := Lib.hid he
  clear he hA1 hL1 hA2
  go_enter Tryd.func9, Tryd.ntmps9
  go_wp2_with fail
  refine (St.new HE.out).mono ?_
  rintro e w1 ⟨b, rfl, h1⟩
  have H1 := Lib.hid h1
  clear h1
  go_wp2_with fail
  refine (ofs_s N 108 108 _ (by omega) (by decide)).mono ?_
  rintro e w2 ⟨v, rfl, _, hcv, hb2⟩
  have H2 := Lib.hid (H1.out.below hb2)
  clear hb2 H1 hN1 hN
  go_wp2_with fail
  refine (H2.out.add _ (str_data _) (by rw [str_size, List.length_replicate]; omega) HA.out.1 HA.out.2.1).mono ?_
  rintro e w3 ⟨rfl, h3, _⟩
  have H3 := Lib.hid h3
  clear h3 H2 hcv
  go_wp2_with fail
  refine (H3.out.left (n := 0) HA.out.2.2).mono ?_
  rintro e w' ⟨rfl, rfl⟩
  go_wp2
  go_loopw [11] (fun i wr => ∃ (k : Nat) (L : List Int), k ≤ K ∧ i = .int .i64 k ∧ Hid (L.length = 0 - k) ∧ Hid (St w wr b L)) (fun i _ => K - (intOf i).toNat)
  case atStart => exact ⟨0, L1, Nat.zero_le _, rfl, HA.out.2.2, H3.out⟩
  case round =>
    obtain ⟨k, L, hk, rfl, HL, HS⟩ := hrel
    by_cases hlt : k < K
    · go_wp2_with fail
      refine (HS.out.next rfl rfl).mono ?_
      rintro e w4 ⟨rfl, h4, _⟩
      have H4 := Lib.hid h4
      clear h4
      go_wp2
      go_roundw
      case rel => exact ⟨k + 1, L.tail, by omega, by go_num, by have h := HL.out; unfold Hid; rw [List.length_tail, h]; omega, H4.out⟩
      case measure => simp [intOf]; omega
    · obtain rfl : k = K := by omega
      have hLl := HL.out
      have HLl : Hid (L.length = 0) := by have h := HL.out; unfold Hid; omega
      have hB1 := aE_rep (b := 102) (n := M) L (by decide)
      have hB2 := aL_rep (b := 102) (n := M) L (by decide)
      rw [if_neg (by have h := HLl.out; omega)] at hB1 hB2
      obtain ⟨L2, hL2⟩ : ∃ L2, aL L (List.replicate M 102) = L2 := ⟨_, rfl⟩
      rw [hL2] at hB2
      have HB := Lib.hid (And.intro hB1 (And.intro hL2 hB2))
      clear hB1 hB2 hL2 hLl hlt
      have hpos : ¬ (0 < (0 : Int) - (k : Int)) := by omega
      go_wp2_with fail
      refine (ofs_s M 102 102 _ (by omega) (by decide)).mono ?_
      rintro e w5 ⟨v5, rfl, _, hcv, hb5⟩
      have H5 := Lib.hid (HS.out.below hb5)
      clear hb5 hM1 hM
      go_wp2_with fail
      refine (H5.out.add _ (str_data _) (by rw [str_size, List.length_replicate]; omega) HB.out.1 HB.out.2.1).mono ?_
      rintro e w6 ⟨rfl, h6, _⟩
      have H6 := Lib.hid h6
      clear h6 H5 hcv
      go_wp2_with fail
      refine (H6.out.left (n := 0) (by have h1 := HB.out.2.2; have h2 := HLl.out; omega)).mono ?_
      rintro e w' ⟨rfl, rfl⟩
      go_wp2_with fail
      refine (works_ok _ H6.out.e).mono ?_
      rintro e w7 ⟨rfl, hb7⟩
      go_wp2
      go_ret
      exact ⟨rfl, bel2 H6.out.bel hb7⟩
theorem aRoo_walk (f t m : Int) (w : World) (hf : 0 ≤ f) (hf2 : f ≤ 65535) (ht : 0 ≤ t) (ht2 : t ≤ 65535) (hm : 0 ≤ m) (hm2 : m ≤ 65535) (he : Env w) :
    Calls Tryd.prog 9 #[.int .u16 f, .int .u16 t, .int .u16 m] w fun e w' => e = .returned (.bool true) ∧ Below w.heap.size w w' := by
  obtain ⟨N, hN⟩ : ∃ N : Nat, f % 2010 = N := ⟨(f % 2010).toNat, by omega⟩
  obtain ⟨K, hK⟩ : ∃ K : Nat, t % 2010 = K := ⟨(t % 2010).toNat, by omega⟩
  obtain ⟨M, hM⟩ : ∃ M : Nat, m % 2010 = M := ⟨(m % 2010).toNat, by omega⟩
  by_cases h1 : N ≤ 2000
  · by_cases h2 : K < N
    · by_cases h3 : (N - K) + M ≤ 2000
      · exact aRoo_a1 f t m N K M w hf hf2 ht ht2 hm hm2 hN hK hM h1 h2 h3 he
      · exact aRoo_a2 f t m N K M w hf hf2 ht ht2 hm hm2 hN hK hM h1 h2 h3 he
    · by_cases h3 : 0 + M ≤ 2000
      · exact aRoo_b1 f t m N K M w hf hf2 ht ht2 hm hm2 hN hK hM h1 (by omega) h3 he
      · exact aRoo_b2 f t m N K M w hf hf2 ht ht2 hm hm2 hN hK hM h1 (by omega) h3 he
  · by_cases h3 : 0 + M ≤ 2000
    · exact aRoo_c1 f t m N K M w hf hf2 ht ht2 hm hm2 hN hK hM h1 h3 he
    · exact aRoo_c2 f t m N K M w hf hf2 ht ht2 hm hm2 hN hK hM h1 h3 he
end Go.Proofs.YtllfmancfkmimaaDoor
