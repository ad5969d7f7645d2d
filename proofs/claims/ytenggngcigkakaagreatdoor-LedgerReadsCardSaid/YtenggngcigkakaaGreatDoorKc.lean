/- The document's side: cut, number. The document's side: read. The document's side: Parse. -/
import Derived.Test.YtenggngcigkakaaGreatDoorKb
import Derived.Test.YtenggngcigkakaaGreatDoorDz
import Derived.Test.YtenggngcigkakaaGreatDoorDzc
namespace Go.Proofs.YtenggngcigkakaaGreatDoor
open Go.RowKit Go.ChangeShapes

/-! ### cut -/
/-- The text ahead of the first space, and behind it. -/
def CutR (s p r : ByteArray) : Prop := (∃ x y, s.data.toList = x ++ 32 :: y ∧ (∀ b ∈ x, b ≠ 32) ∧ p = bstr x ∧ r = bstr y) ∨ ((∀ b ∈ s.data.toList, b ≠ 32) ∧ p = s ∧ r = ⟨#[]⟩)
theorem at_list {m : UInt8} {s : ByteArray} {A : Nat} (h : AtM m s A) : ∀ b ∈ s.data.toList.take A, b ≠ m := by
  intro b hb
  obtain ⟨i, hi, rfl⟩ := List.getElem_of_mem hb
  rw [List.length_take] at hi
  have hl := Lib.size_eq s
  rw [List.getElem_take]
  exact h.2.1 i (by omega) (by omega)
theorem at_cut {m : UInt8} {s : ByteArray} {A : Nat} (h : AtM m s A) (hA : A < s.size) : s.data.toList = s.data.toList.take A ++ m :: s.data.toList.drop (A + 1) := by
  have hl := Lib.size_eq s
  have e : s.data.toList[A]'(by omega) = m := h.2.2 hA
  rw [← e, ← List.drop_eq_getElem_cons, List.take_append_drop]
theorem at_parts {m : UInt8} {s : ByteArray} {A : Nat} (hA : A < s.size) : s.extract 0 A = bstr (s.data.toList.take A) ∧ s.extract (A + 1) s.size = bstr (s.data.toList.drop (A + 1)) := by
  have hl := Lib.size_eq s
  constructor
  · rw [Lib.extract_eq]; rfl
  · rw [Lib.extract_eq, List.take_of_length_le (by rw [List.length_drop]; omega)]; rfl
set_option maxHeartbeats 1000000 in
theorem rcut_ok (s : ByteArray) (hs : s.size ≤ 100000) (w : World) : Calls Tryz.prog 94 #[.string s] w fun e w' => (∃ p r, e = .returned (.tuple #[.string p, .string r]) ∧ CutR s p r) ∧ Below w.heap.size w w' := by
  obtain ⟨A, hA⟩ := at_mark 32 s
  have HA := Lib.hid hA
  clear hA
  have hAs := HA.out.1
  go_enter Tryz.func94, Tryz.ntmps94
  go_wp2
  go_loopw [4] (fun i wr => ∃ k : Nat, k ≤ A ∧ i = .int .i64 k ∧ Hid (Below w.heap.size w wr)) (fun i _ => A + 1 - (intOf i).toNat)
  case atStart => exact ⟨0, Nat.zero_le _, rfl, Below.refl _ _⟩
  case round =>
    obtain ⟨k, hk, rfl, HB⟩ := hrel
    by_cases hlt : k < A
    · have hks : k < s.size := by omega
      have hne : s[k] ≠ 32 := HA.out.2.1 k hks hlt
      have hne1 : (((s[k].toNat : Int)) == 32) = false := by rw [beq_eq_false_iff_ne]; intro e; exact hne (UInt8.toNat_inj.1 (by show s[k].toNat = 32; omega))
      clear hne
      go_wp2
      go_roundw
      case rel => exact ⟨k + 1, by omega, by go_num, HB.out⟩
      case measure => simp [intOf]; omega
    · obtain rfl : k = A := by omega
      by_cases hlt2 : k < s.size
      · have heq : s[k] = 32 := HA.out.2.2 hlt2
        have heq1 : (((s[k].toNat : Int)) == 32) = true := by rw [beq_iff_eq, heq]; rfl
        have HP := Lib.hid (at_parts (m := 32) hlt2)
        have hi1 : (k : Int) + 1 ≤ (s.size : Int) := by omega
        have hi2 : (0 : Int) ≤ (k : Int) + 1 := by omega
        have hi3 : (k : Int) ≤ (s.size : Int) := by omega
        have hi4 : (0 : Int) ≤ (k : Int) := by omega
        have hwr : IntKind.i64.wrap ((k : Int) + 1) = (k : Int) + 1 := by rw [IntKind.wrap_i64]; omega
        clear heq
        go_wp2
        go_quiet (fail)
        go_wp2
        go_ret2
        exact ⟨⟨_, _, rfl, .inl ⟨_, _, at_cut HA.out hlt2, at_list HA.out, HP.out.1, HP.out.2⟩⟩, bel_drewN HB.out _⟩
      · obtain rfl : k = s.size := by omega
        go_wp2
        go_ret2
        exact ⟨⟨_, _, rfl, .inr ⟨fun b hb => at_list HA.out b (by rw [List.take_of_length_le (by rw [← Lib.size_eq]; exact Nat.le_refl _)]; exact hb), rfl, rfl⟩⟩, HB.out⟩

/-! ### number -/
/-- What number gives. -/
def NumV (s : ByteArray) (v : Int) : Prop := 0 ≤ v ∧ v ≤ 9999999999999 ∧ ∀ u : Nat, u ≤ 1099511627776 → s.data.toList = Lib.decDigits u → v = u
theorem num_no {s : ByteArray} (h : ∀ u : Nat, u ≤ 1099511627776 → s.data.toList ≠ Lib.decDigits u) : NumV s 0 := ⟨by omega, by omega, fun u hu e => absurd e (h u hu)⟩
theorem num_lt13 (l : List UInt8) (h : ∀ c ∈ l, c.toNat ≤ 57) (hl : l.length ≤ 13) : numOf l ≤ 9999999999999 := by
  have h1 := numOf_lt l h
  have h2 : (10 : Nat) ^ l.length ≤ 10 ^ 13 := Nat.pow_le_pow_right (by decide) hl
  have h3 : (10 : Nat) ^ 13 = 10000000000000 := by decide
  omega
open Go.Lib in
set_option maxHeartbeats 2000000 in
theorem rnum_ok (s : ByteArray) (hs : s.size ≤ 100000) (w : World) : Calls Tryz.prog 95 #[.string s] w fun e w' => (∃ v, e = .returned (.int .i64 v) ∧ NumV s v) ∧ Below w.heap.size w w' := by
  go_enter Tryz.func95, Tryz.ntmps95
  go_wp2
  go_loopw [3, 4] (fun n i wr => ∃ (k m : Nat), k ≤ s.size ∧ i = .int .i64 k ∧ n = .int .i64 m ∧ Hid (m = numOf (s.data.toList.take k)) ∧ Hid (AllDigits (s.data.toList.take k)) ∧ Hid (0 < k → s.size ≤ 13) ∧ m ≤ 9999999999999 ∧ Hid (Below w.heap.size w wr)) (fun _ i _ => s.size - (intOf i).toNat)
  case atStart => exact ⟨0, 0, Nat.zero_le _, rfl, rfl, rfl, fun c hc => by simp at hc, fun h => absurd h (Nat.lt_irrefl _), by omega, Below.refl _ _⟩
  case round =>
    obtain ⟨k, m, hk, rfl, rfl, HM, HA, HL, hm, HB⟩ := hrel
    by_cases hlt : k < s.size
    · have HT := Lib.hid (take_snoc s k hlt)
      have hcm : s[k] ∈ s.data.toList := by
        have : s[k] ∈ s.data.toList.take (k + 1) := by rw [HT.out]; simp
        exact List.mem_of_mem_take this
      have HMM := Lib.hid hcm
      clear hcm
      by_cases b1 : s[k].toNat < 48
      · have hb1 : (s[k].toNat : Int) < 48 := by omega
        go_wp2
        go_ret
        exact ⟨⟨0, rfl, num_no fun u hu e => by have h1 := HMM.out; rw [e] at h1; have := digits_mem u _ h1; omega⟩, HB.out⟩
      by_cases b2 : 57 < s[k].toNat
      · have hb1 : ¬ (s[k].toNat : Int) < 48 := by omega
        have hb2 : (57 : Int) < (s[k].toNat : Int) := by omega
        go_wp2
        go_ret
        exact ⟨⟨0, rfl, num_no fun u hu e => by have h1 := HMM.out; rw [e] at h1; have := digits_mem u _ h1; omega⟩, HB.out⟩
      have hb1 : ¬ (s[k].toNat : Int) < 48 := by omega
      have hb2 : ¬ (57 : Int) < (s[k].toNat : Int) := by omega
      by_cases b3 : 13 < s.size
      · go_wp2
        go_ret
        exact ⟨⟨0, rfl, num_no fun u hu e => by have h1 := dig_len13 u hu; rw [← e, ← Lib.size_eq] at h1; omega⟩, HB.out⟩
      · have HA2 : Hid (AllDigits (s.data.toList.take (k + 1))) := fun c hc => by
          rw [HT.out] at hc
          rcases List.mem_append.1 hc with hc | hc
          · exact HA.out c hc
          · rw [List.mem_singleton] at hc
            subst hc
            exact ⟨by omega, by omega⟩
        have hnew : m * 10 + (s[k].toNat - 48) = numOf (s.data.toList.take (k + 1)) := by rw [HT.out, numOf_snoc, ← HM.out]
        have hsm : numOf (s.data.toList.take (k + 1)) ≤ 9999999999999 := num_lt13 _ (fun c hc => (HA2.out c hc).2) (by rw [List.length_take, ← Lib.size_eq]; omega)
        have HN := Lib.hid hnew
        have hmb : m * 10 + (s[k].toNat - 48) ≤ 9999999999999 := by rw [hnew]; exact hsm
        have q1 : IntKind.i64.wrap ((m : Int) * 10) = (m : Int) * 10 := by rw [IntKind.wrap_i64]; omega
        have q2 : IntKind.u8.wrap ((s[k].toNat : Int) - 48) = (s[k].toNat : Int) - 48 := IntWalk.u8_in _ (by omega)
        have q3 : IntKind.i64.wrap ((s[k].toNat : Int) - 48) = (s[k].toNat : Int) - 48 := by rw [IntKind.wrap_i64]; omega
        have q4 : IntKind.i64.wrap ((m : Int) * 10 + ((s[k].toNat : Int) - 48)) = (m : Int) * 10 + ((s[k].toNat : Int) - 48) := by rw [IntKind.wrap_i64]; omega
        clear hnew hsm
        go_wp2
        go_roundw
        case rel => exact ⟨k + 1, m * 10 + (s[k].toNat - 48), by omega, by go_num, by congr 1; omega, HN.out, HA2.out, fun _ => by omega, hmb, HB.out⟩
        case measure => simp [intOf]; omega
    · have hks : k = s.size := by omega
      have hv : NumV s m := ⟨by omega, by omega, fun u hu e => by
        rw [HM.out, hks, List.take_of_length_le (by rw [← Lib.size_eq]; exact Nat.le_refl _), e, numOf_digits]⟩
      have HV := Lib.hid hv
      clear hv
      go_wp2
      go_ret
      exact ⟨⟨m, rfl, HV.out⟩, HB.out⟩
end Go.Proofs.YtenggngcigkakaaGreatDoor

namespace Go.Proofs.YtenggngcigkakaaGreatDoor
open Go.RowKit Go.ChangeShapes

theorem CutR.size {s p r : ByteArray} (h : CutR s p r) : p.size ≤ s.size ∧ r.size ≤ s.size := by
  rcases h with ⟨x, y, e, _, rfl, rfl⟩ | ⟨_, rfl, rfl⟩
  · rw [bstr_size, bstr_size, Lib.size_eq s, e, List.length_append, List.length_cons]
    omega
  · exact ⟨Nat.le_refl _, Nat.zero_le _⟩
theorem CutR.hit {s p r : ByteArray} {x y : List UInt8} (h : CutR s p r) (e : s.data.toList = x ++ 32 :: y) (hx : ∀ b ∈ x, b ≠ 32) : p = bstr x ∧ r = bstr y := by
  rcases h with ⟨x', y', e', hx', rfl, rfl⟩ | ⟨hn, _, _⟩
  · rw [e] at e'
    obtain ⟨h1, h2⟩ := split_eq hx hx' e'
    rw [h1, h2]; exact ⟨rfl, rfl⟩
  · exact absurd rfl (hn 32 (by rw [e]; simp))
theorem roparse_any (s : ByteArray) (hs : s.size ≤ 100000) : ∃ k i g E : Int, RgO k i g ∧ (∀ K P G : Nat, Okn 64 K P G → s.data.toList = txt 58 K P G → k = K ∧ i = P ∧ g = G) ∧
    ∀ w : World, Calls Tryz.prog 96 #[.string s] w fun e w' => e = .returned (.tuple #[.agg #[.int .i64 k, .int .i64 i, .int .u32 g], .int .i64 E]) ∧ Below w.heap.size w w' := by
  by_cases h : NoName 58 64 s.data.toList
  · exact ⟨0, 0, 0, 9, by constructor <;> decide, fun K P G hk e => absurd e (h K P G hk), fun w => roparse_no s hs h w⟩
  · unfold NoName at h
    simp only [Classical.not_forall, Classical.not_not] at h
    obtain ⟨K, P, G, hk, e⟩ := h
    have hs2 : s = ⟨(txt 58 K P G).toArray⟩ := by apply ByteArray.ext; rw [← e]
    subst hs2
    refine ⟨K, P, G, 0, by obtain ⟨h1, h2, h3, h4, h5⟩ := hk; constructor <;> omega, fun K' P' G' hk' e' => ?_, fun w => roparse_yes K P G hk w⟩
    obtain ⟨h1, h2, h3⟩ := txt_inj2 (m := 58) (.inr rfl) hk.k1 hk.k3 hk' e'
    rw [h1, h2, h3]; exact ⟨rfl, rfl, rfl⟩
/-- What the document's read gives. -/
def RReadV (s : ByteArray) (e : Ending) : Prop :=
  (∃ a : Att, a.Ok ∧ s.data.toList = aText a ∧ e = .returned (.tuple #[.agg #[.int .i64 a.t, .int .i64 a.k, .int .i64 a.i, .int .u32 a.g, .int .i64 a.y, .int .i64 a.n], .bool true])) ∨
  ((∀ a : Att, a.Ok → s.data.toList ≠ aText a) ∧ e = .returned (.tuple #[.agg #[.int .i64 0, .int .i64 0, .int .i64 0, .int .u32 0, .int .i64 0, .int .i64 0], .bool false]))
theorem toList_beq_true {a b : ByteArray} (h : a = b) : (a.toList == b.toList) = true := by rw [h]; exact beq_self_eq_true _
theorem toList_beq_false {a b : ByteArray} (h : a ≠ b) : (a.toList == b.toList) = false := by
  rw [beq_eq_false_iff_ne, ByteArray.toList_eq, ByteArray.toList_eq]
  intro e
  exact h (by apply ByteArray.ext; exact Array.toList_inj.1 e)
/-- What is known of the parts that the document's read has cut. -/
structure PartsR (s p1 p2 r2 : ByteArray) (t k i g : Int) : Prop where
  hit : ∀ a : Att, a.Ok → s.data.toList = aText a → t = a.t ∧ k = a.k ∧ i = a.i ∧ g = a.g ∧ p1 ++ ⟨#[32]⟩ ++ p2 ++ ⟨#[32]⟩ ++ r2 = s
  t0 : 0 ≤ t
  t1 : t ≤ 9999999999999
  ro : RgO k i g
theorem parts_read {s p1 r1 p2 r2 : ByteArray} {t k i g : Int} (h1 : CutR s p1 r1) (h2 : CutR r1 p2 r2) (h3 : NumV p1 t) (h4 : RgO k i g) (h5 : ∀ K P G : Nat, Okn 64 K P G → p2.data.toList = txt 58 K P G → k = K ∧ i = P ∧ g = G) : PartsR s p1 p2 r2 t k i g := by
  refine ⟨fun a ha e => ?_, h3.1, h3.2.1, h4⟩
  obtain ⟨e1, e2⟩ := h1.hit e (fun b hb => dig_ne (by decide) _ b hb)
  have e3 : r1.data.toList = txt 58 a.k.toNat a.i.toNat a.g.toNat ++ 32 :: (whyW a.y ++ 32 :: ansW a.n) := by rw [e2]; rfl
  obtain ⟨e4, e5⟩ := h2.hit e3 (fun b hb => txt_ne (by decide) b hb)
  have h6 := h3.2.2 a.t.toNat (by have := ha.t0; have := ha.t1; omega) (by rw [e1]; rfl)
  obtain ⟨h7, h8, h9⟩ := h5 _ _ _ ha.okn (by rw [e4]; rfl)
  refine ⟨by rw [h6, Int.toNat_of_nonneg ha.t0], by rw [h7, Int.toNat_of_nonneg (by have := ha.k0; omega)], by rw [h8, Int.toNat_of_nonneg ha.i0], by rw [h9, Int.toNat_of_nonneg (by have := ha.g0; omega)], ?_⟩
  rw [e1, e4, e5, show (⟨#[32]⟩ : ByteArray) = bstr [32] from rfl, bstr_append, bstr_append, bstr_append, bstr_append, ← bstr_of s, e]
  congr 1
  simp [aText]
/-- The attempt with these numbers is not the one whose text s is. -/
def NoHit (s : ByteArray) (t k i g : Int) (y n : Nat) : Prop := (⟨t, k, i, g, y, n⟩ : Att).Ok → s.data.toList ≠ aText ⟨t, k, i, g, y, n⟩
set_option maxRecDepth 100000 in
set_option maxHeartbeats 8000000 in
theorem rread_ok (s : ByteArray) (hs : s.size ≤ 100000) (w : World) : Calls Tryz.prog 68 #[.string s] w fun e w' => RReadV s e ∧ Below w.heap.size w w' := by
  have HB0 := Lib.hid (bel_new w (.cells #[.int .i64 0, .int .i64 0, .int .i64 0, .int .u32 0, .int .i64 0, .int .i64 0] 32))
  have HR0 := Lib.hid (Bk.new w 32 #[.int .i64 0, .int .i64 0, .int .i64 0, .int .u32 0, .int .i64 0, .int .i64 0])
  go_enter Tryz.func68, Tryz.ntmps68
  go_wp2_with fail
  refine (rcut_ok s hs _).mono ?_
  rintro e w1 ⟨⟨p1, r1, rfl, hc1⟩, hb1⟩
  have HC1 := Lib.hid hc1
  have HB1 := Lib.hid (bel2 HB0.out hb1)
  have HR1 := Lib.hid (HR0.out.below hb1)
  have hz1 := hc1.size
  clear hc1 hb1 HB0 HR0
  go_wp2_with fail
  refine (rcut_ok r1 (by omega) _).mono ?_
  rintro e w2 ⟨⟨p2, r2, rfl, hc2⟩, hb2⟩
  have HC2 := Lib.hid hc2
  have HB2 := Lib.hid (bel2 HB1.out hb2)
  have HR2 := Lib.hid (HR1.out.below hb2)
  have hz2 := hc2.size
  clear hc2 hb2 HB1 HR1
  go_wp2_with fail
  refine (rnum_ok p1 (by omega) _).mono ?_
  rintro e w3 ⟨⟨t, rfl, hn⟩, hb3⟩
  have HN := Lib.hid hn
  have HB3 := Lib.hid (bel2 HB2.out hb3)
  have HR3 := Lib.hid (HR2.out.below hb3)
  clear hn hb3 HB2 HR2
  obtain ⟨k, i, g, E, ho1, ho2, ho3⟩ := roparse_any p2 (by omega)
  have HPS := Lib.hid (parts_read HC1.out HC2.out HN.out ho1 ho2)
  have HO := Lib.hid ho3
  clear ho1 ho2 ho3 HC1 HC2 HN
  have HB4 := Lib.hid (bel2 HB3.out (bel_new w3 (.cells #[.int .i64 t, .int .i64 0, .int .i64 0, .int .u32 0, .int .i64 0, .int .i64 0] 32)))
  have HR4 := Lib.hid (HR3.out.below (bel_new w3 (.cells #[.int .i64 t, .int .i64 0, .int .i64 0, .int .u32 0, .int .i64 0, .int .i64 0] 32)))
  have HX4 := Lib.hid (Bk.new w3 32 #[.int .i64 t, .int .i64 0, .int .i64 0, .int .u32 0, .int .i64 0, .int .i64 0])
  have HZ3 : Hid (w.heap.size ≤ w3.heap.size) := HB3.out.size
  have HRX : Hid (w.heap.size ≠ w3.heap.size) := by have := HR3.out.lt; rw [Hid]; omega
  clear HB3 HR3
  go_wp2_with fail
  refine (HO.out _).mono ?_
  rintro e w5 ⟨rfl, hb5⟩
  have HB5 := Lib.hid (bel2 HB4.out hb5)
  have HR5 := Lib.hid (HR4.out.below hb5)
  have HX5 := Lib.hid (HX4.out.below hb5)
  clear hb5 HB4 HR4 HX4
  have y1 := HX5.out.cell 1
  have y2 := HX5.out.cell 2
  have y3 := HX5.out.cell 3
  have z1 := HX5.out.frozen 1
  have z2 := HX5.out.frozen 2
  have z3 := HX5.out.frozen 3
  go_wp2
  have hk6 : Kept (fun b => b = w3.heap.size) w5 (((w5.setCell ⟨w3.heap.size, 1, none⟩ (.int .i64 k)).setCell ⟨w3.heap.size, 2, none⟩ (.int .i64 i)).setCell ⟨w3.heap.size, 3, none⟩ (.int .u32 g)) := Kept.put (S := fun b => b = w3.heap.size) (Kept.put (S := fun b => b = w3.heap.size) (Kept.put (S := fun b => b = w3.heap.size) (Kept.refl _ _) (p := ⟨w3.heap.size, 1, none⟩) (.inr rfl) _) (p := ⟨w3.heap.size, 2, none⟩) (.inr rfl) _) (p := ⟨w3.heap.size, 3, none⟩) (.inr rfl) _
  have HX6 : Hid (Bk (((w5.setCell ⟨w3.heap.size, 1, none⟩ (.int .i64 k)).setCell ⟨w3.heap.size, 2, none⟩ (.int .i64 i)).setCell ⟨w3.heap.size, 3, none⟩ (.int .u32 g)) w3.heap.size 32 #[.int .i64 t, .int .i64 k, .int .i64 i, .int .u32 g, .int .i64 0, .int .i64 0]) := ((HX5.out.put 1 _).put 2 _).put 3 _
  have HR6 := Lib.hid (HR5.out.kept hk6 HRX.out)
  have HXB : Hid (w.heap.size ≤ w3.heap.size) := HZ3.out
  have HB6 := Lib.hid (HB5.out.trans (hk6.below HB5.out.size (fun b e => by rw [e]; exact HXB.out)))
  clear hk6 y1 y2 y3 z1 z2 z3 HX5 HR5 HB5
  generalize (((w5.setCell ⟨w3.heap.size, 1, none⟩ (.int .i64 k)).setCell ⟨w3.heap.size, 2, none⟩ (.int .i64 i)).setCell ⟨w3.heap.size, 3, none⟩ (.int .u32 g)) = w6 at *
  generalize w3.heap.size = XB at *
  go_loopw [8] (fun v wr => ∃ (q : Nat) (yv nv : Int), 1 ≤ q ∧ q ≤ 4 ∧ v = .int .i64 q ∧ Hid (Bk wr XB 32 #[.int .i64 t, .int .i64 k, .int .i64 i, .int .u32 g, .int .i64 yv, .int .i64 nv]) ∧ Hid (Bk wr w.heap.size 32 #[.int .i64 0, .int .i64 0, .int .i64 0, .int .u32 0, .int .i64 0, .int .i64 0]) ∧ Hid (Below w.heap.size w wr) ∧ Hid (∀ y n : Nat, 1 ≤ y → y < q → 1 ≤ n → n ≤ 3 → NoHit s t k i g y n)) (fun v _ => 4 - (intOf v).toNat)
  case atStart => exact ⟨1, 0, 0, Nat.le_refl _, by omega, rfl, HX6, HR6, HB6, fun y n h1 h2 => absurd h1 (by omega)⟩
  case round =>
    obtain ⟨q, yv, nv, hq1, hq4, rfl, HX, HR, HB, HV⟩ := hrel
    clear HX6 HR6 HB6
    by_cases hq : q ≤ 3
    · go_wp2
      obtain ⟨bt, hbt⟩ : ∃ bt, decide ((q : Int) ≤ 3) = bt := ⟨_, rfl⟩
      rw [hbt]
      clear hbt
      go_loopw [9] (fun v wr => ∃ (r : Nat) (yv nv : Int), 1 ≤ r ∧ r ≤ 4 ∧ v = .int .i64 r ∧ Hid (Bk wr XB 32 #[.int .i64 t, .int .i64 k, .int .i64 i, .int .u32 g, .int .i64 yv, .int .i64 nv]) ∧ Hid (Bk wr w.heap.size 32 #[.int .i64 0, .int .i64 0, .int .i64 0, .int .u32 0, .int .i64 0, .int .i64 0]) ∧ Hid (Below w.heap.size w wr) ∧ Hid (∀ n : Nat, 1 ≤ n → n < r → NoHit s t k i g q n)) (fun v _ => 4 - (intOf v).toNat)
      case atStart => exact ⟨1, yv, nv, Nat.le_refl _, by omega, rfl, HX, HR, HB, fun n h1 h2 => absurd h1 (by omega)⟩
      case round =>
        obtain ⟨r, yv2, nv2, hr1, hr4, rfl, HX2, HR2, HB2, HV2⟩ := hrel
        clear HX HR HB
        by_cases hr : r ≤ 3
        · have hk7 : Kept (fun b => b = XB) wr ((wr.setCell ⟨XB, 4, none⟩ (.int .i64 (q : Int))).setCell ⟨XB, 5, none⟩ (.int .i64 (r : Int))) := Kept.put (S := fun b => b = XB) (Kept.put (S := fun b => b = XB) (Kept.refl _ _) (p := ⟨XB, 4, none⟩) (.inr rfl) _) (p := ⟨XB, 5, none⟩) (.inr rfl) _
          have HX7 : Hid (Bk ((wr.setCell ⟨XB, 4, none⟩ (.int .i64 (q : Int))).setCell ⟨XB, 5, none⟩ (.int .i64 (r : Int))) XB 32 #[.int .i64 t, .int .i64 k, .int .i64 i, .int .u32 g, .int .i64 (q : Int), .int .i64 (r : Int)]) := (HX2.out.put 4 _).put 5 _
          have HR7 := Lib.hid (HR2.out.kept hk7 HRX.out)
          have HB7 := Lib.hid (HB2.out.trans (hk7.below HB2.out.size (fun b e => by rw [e]; exact HXB.out)))
          have HRG : Hid (⟨t, k, i, g, q, r⟩ : Att).Rg := ⟨by have := HPS.out.t0; simp only; omega, by have := HPS.out.t1; simp only; omega, HPS.out.ro.k0, HPS.out.ro.k1, HPS.out.ro.i0, HPS.out.ro.i1, HPS.out.ro.g0, HPS.out.ro.g1, by simp only; omega, by simp only; omega, by simp only; omega, by simp only; omega⟩
          have y4 := HX2.out.cell 4
          have y5 := HX2.out.cell 5
          have y0 := HX2.out.cell 0
          have y1 := HX2.out.cell 1
          have y2 := HX2.out.cell 2
          have y3 := HX2.out.cell 3
          have z4 := HX2.out.frozen 4
          have z5 := HX2.out.frozen 5
          clear hk7
          by_cases hok : (⟨t, k, i, g, q, r⟩ : Att).Ok
          · have HOK := Lib.hid hok
            clear hok
            go_wp2_with fail
            refine (rchk_att (⟨t, k, i, g, q, r⟩ : Att) HRG.out _).mono ?_
            clear y0 y1 y2 y3 y4 y5 z4 z5
            generalize ((wr.setCell ⟨XB, 4, none⟩ (.int .i64 (q : Int))).setCell ⟨XB, 5, none⟩ (.int .i64 (r : Int))) = w7 at *
            rintro e w8 ⟨rfl, hb8⟩
            rw [chkE_ok HOK.out]
            have HX8 := Lib.hid (HX7.out.below hb8)
            have HR8 := Lib.hid (HR7.out.below hb8)
            have HB8 := Lib.hid (bel2 HB7.out hb8)
            clear hb8 HX7 HR7 HB7
            have d0 := HX8.out.cell 0
            have d1 := HX8.out.cell 1
            have d2 := HX8.out.cell 2
            have d3 := HX8.out.cell 3
            have d4 := HX8.out.cell 4
            have d5 := HX8.out.cell 5
            go_wp2_with fail
            refine (rline_ok (⟨t, k, i, g, q, r⟩ : Att) HOK.out _).mono ?_
            rintro e w9 ⟨rfl, hb9⟩
            have HX9 := Lib.hid (HX8.out.below hb9)
            have HR9 := Lib.hid (HR8.out.below hb9)
            have HB9 := Lib.hid (bel2 HB8.out hb9)
            clear hb9 HX8 HR8 HB8 d0 d1 d2 d3 d4 d5
            obtain ⟨LS, hLS⟩ : ∃ LS, bstr (aText (⟨t, k, i, g, q, r⟩ : Att)) = LS := ⟨_, rfl⟩
            rw [hLS]
            have HLS := Lib.hid hLS
            clear hLS
            have d0 := HX9.out.cell 0
            have d1 := HX9.out.cell 1
            have d2 := HX9.out.cell 2
            have d3 := HX9.out.cell 3
            have d4 := HX9.out.cell 4
            have d5 := HX9.out.cell 5
            have f1 : ¬ 9223372036854775807 < p1.size + 1 := by omega
            have f2 : ¬ 9223372036854775807 < p1.size + 1 + p2.size := by omega
            have f3 : ¬ 9223372036854775807 < p1.size + 1 + p2.size + 1 := by omega
            have f4 : ¬ 9223372036854775807 < p1.size + 1 + p2.size + 1 + r2.size := by omega
            by_cases c1 : LS.toList = (p1 ++ ⟨#[32]⟩ ++ p2 ++ ⟨#[32]⟩ ++ r2).toList
            · go_wp2_with fail
              refine (rline_ok (⟨t, k, i, g, q, r⟩ : Att) HOK.out _).mono ?_
              rintro e w10 ⟨rfl, hb10⟩
              rw [HLS.out]
              have HX10 := Lib.hid (HX9.out.below hb10)
              have HR10 := Lib.hid (HR9.out.below hb10)
              have HB10 := Lib.hid (bel2 HB9.out hb10)
              clear hb10 HX9 HR9 HB9 d0 d1 d2 d3 d4 d5 f1 f2 f3 f4 c1
              by_cases c2 : LS.toList = s.toList
              · have HEQ : Hid (s.data.toList = aText (⟨t, k, i, g, q, r⟩ : Att)) := by
                  rw [ByteArray.toList_eq, ByteArray.toList_eq, ← HLS.out] at c2
                  exact c2.symm
                have d0 := HX10.out.cell 0
                have d1 := HX10.out.cell 1
                have d2 := HX10.out.cell 2
                have d3 := HX10.out.cell 3
                have d4 := HX10.out.cell 4
                have d5 := HX10.out.cell 5
                have e0 := HR10.out.cell 0
                have e1 := HR10.out.cell 1
                have e2 := HR10.out.cell 2
                have e3 := HR10.out.cell 3
                have e4 := HR10.out.cell 4
                have e5 := HR10.out.cell 5
                have z0 := HR10.out.frozen 0
                have z1 := HR10.out.frozen 1
                have z2 := HR10.out.frozen 2
                have z3 := HR10.out.frozen 3
                have z4 := HR10.out.frozen 4
                have z5 := HR10.out.frozen 5
                go_wp2
                refine bodyPost_ret (v := .tuple #[.agg #[.int .i64 t, .int .i64 k, .int .i64 i, .int .u32 g, .int .i64 q, .int .i64 r], .bool true]) ?_ rfl ⟨.inl ⟨⟨t, k, i, g, q, r⟩, HOK.out, HEQ.out, rfl⟩, ?_⟩
                · simp [results, Tryz.results68, go_sem, e0, e1, e2, e3, e4, e5]
                · exact put6_below (a := ⟨t, k, i, g, q, r⟩) HB10.out (Nat.le_refl _)
              · have HNE : Hid (s.data.toList ≠ aText (⟨t, k, i, g, q, r⟩ : Att)) := fun h => c2 (by
                  rw [ByteArray.toList_eq, ByteArray.toList_eq, ← HLS.out]
                  exact h.symm)
                have c2b := toList_beq_false (a := LS) (b := s) (fun h => c2 (by rw [h]))
                go_wp2
                go_roundw
                case rel => exact ⟨r + 1, q, r, by omega, by omega, by go_num, HX10.out, HR10.out, HB10.out, fun n h1 h2 => by
                  rcases Nat.lt_or_ge n r with h | h
                  · exact HV2.out n h1 h
                  · obtain rfl : n = r := by omega
                    exact fun _ => HNE.out⟩
                case measure => simp [intOf]; omega
            · have HNE : Hid (s.data.toList ≠ aText (⟨t, k, i, g, q, r⟩ : Att)) := fun h => c1 (by
                have h2 := (HPS.out.hit _ HOK.out h).2.2.2.2
                rw [h2, ByteArray.toList_eq, ByteArray.toList_eq, ← HLS.out]
                exact h.symm)
              go_wp2
              go_roundw
              case rel => exact ⟨r + 1, q, r, by omega, by omega, by go_num, HX9.out, HR9.out, HB9.out, fun n h1 h2 => by
                rcases Nat.lt_or_ge n r with h | h
                · exact HV2.out n h1 h
                · obtain rfl : n = r := by omega
                  exact fun _ => HNE.out⟩
              case measure => simp [intOf]; omega
          · have HNO := Lib.hid hok
            clear hok
            go_wp2_with fail
            refine (rchk_att (⟨t, k, i, g, q, r⟩ : Att) HRG.out _).mono ?_
            clear y0 y1 y2 y3 y4 y5 z4 z5
            generalize ((wr.setCell ⟨XB, 4, none⟩ (.int .i64 (q : Int))).setCell ⟨XB, 5, none⟩ (.int .i64 (r : Int))) = w7 at *
            rintro e w8 ⟨rfl, hb8⟩
            rw [chkE_bad HNO.out]
            have HX8 := Lib.hid (HX7.out.below hb8)
            have HR8 := Lib.hid (HR7.out.below hb8)
            have HB8 := Lib.hid (bel2 HB7.out hb8)
            clear hb8 HX7 HR7 HB7
            go_wp2
            go_roundw
            case rel => exact ⟨r + 1, q, r, by omega, by omega, by go_num, HX8.out, HR8.out, HB8.out, fun n h1 h2 => by
              rcases Nat.lt_or_ge n r with h | h
              · exact HV2.out n h1 h
              · obtain rfl : n = r := by omega
                exact fun hk => absurd hk HNO.out⟩
            case measure => simp [intOf]; omega
        · obtain rfl : r = 4 := by omega
          go_wp2
          go_roundw
          case rel => exact ⟨q + 1, yv2, nv2, by omega, by omega, by go_num, HX2.out, HR2.out, HB2.out, fun y n h1 h2 h3 h4 => by
            rcases Nat.lt_or_ge y q with h | h
            · exact HV.out y n h1 h h3 h4
            · obtain rfl : y = q := by omega
              exact HV2.out n h3 (by omega)⟩
          case measure => simp [intOf]; omega
    · obtain rfl : q = 4 := by omega
      have HNN : Hid (∀ a : Att, a.Ok → s.data.toList ≠ aText a) := fun a ha e => by
        obtain ⟨h1, h2, h3, h4, _⟩ := HPS.out.hit a ha e
        have k1 := ha.y0
        have k2 := ha.y1
        have k3 := ha.n0
        have k4 := ha.n1
        have e1 : (⟨t, k, i, g, ((a.y.toNat : Nat) : Int), ((a.n.toNat : Nat) : Int)⟩ : Att) = a := by
          rw [h1, h2, h3, h4, Int.toNat_of_nonneg (by omega), Int.toNat_of_nonneg (by omega)]
        have := HV.out a.y.toNat a.n.toNat (by omega) (by omega) (by omega) (by omega)
        unfold NoHit at this
        rw [e1] at this
        exact this ha e
      have e0 := HR.out.cell 0
      have e1 := HR.out.cell 1
      have e2 := HR.out.cell 2
      have e3 := HR.out.cell 3
      have e4 := HR.out.cell 4
      have e5 := HR.out.cell 5
      have z0 := HR.out.frozen 0
      have z1 := HR.out.frozen 1
      have z2 := HR.out.frozen 2
      have z3 := HR.out.frozen 3
      have z4 := HR.out.frozen 4
      have z5 := HR.out.frozen 5
      go_wp2
      refine bodyPost_ret (v := .tuple #[.agg #[.int .i64 0, .int .i64 0, .int .i64 0, .int .u32 0, .int .i64 0, .int .i64 0], .bool false]) ?_ rfl ⟨.inr ⟨HNN.out, rfl⟩, ?_⟩
      · simp [results, Tryz.results68, go_sem, e0, e1, e2, e3, e4, e5]
      · exact put6_below (a := att0) HB.out (Nat.le_refl _)
end Go.Proofs.YtenggngcigkakaaGreatDoor

namespace Go.Proofs.YtenggngcigkakaaGreatDoor
open Go.RowKit Go.ChangeShapes

theorem wpList_append_j {w : World} {ops : Array Oper} {rest : List Oper} {o : Oper} {a : Act} {Q : Exit → Act → World → Prop} (hgd : o.guard = none) (s x : Operand) (t tn : TypeId)
    (ho : o.op = .call { callee := .builtin .append, args := #[s, x], argTypes := #[t, tn] }) (vs vx : Value) (hs : a.eval s = vs) (hx : a.eval x = vx)
    (v' : Value) (w' : World) (hr : (Builtin.append_ #[t, tn] o.type #[vs, vx]).run Tryz.prog w = .ok v' w') (h : wpList Tryz.prog ops Q rest (a.put o.dst v') w') : wpList Tryz.prog ops Q (o :: rest) a w :=
  wpList_plain hgd fun _ hK => Lib.wp_append_run w s x t tn ho vs vx hs hx v' w' hr (hK _ _ h)
theorem ext_list (s : ByteArray) (f k : Nat) : (s.extract f k).data.toList = (s.data.toList.drop f).take (k - f) := by rw [Lib.extract_eq]
theorem take_line {l : List UInt8} {f k : Nat} (hf : f ≤ k) (hk : k < l.length) (h10 : l[k] = 10) : l.take (k + 1) = l.take f ++ ((l.drop f).take (k - f) ++ [10]) ∧ l.drop f = (l.drop f).take (k - f) ++ 10 :: l.drop (k + 1) := by
  have e1 : l.take k = l.take f ++ (l.drop f).take (k - f) := by
    obtain ⟨d, rfl⟩ : ∃ d, k = f + d := ⟨k - f, by omega⟩
    rw [List.take_add, Nat.add_sub_cancel_left]
  constructor
  · rw [List.take_succ_eq_append_getElem hk, e1, h10, List.append_assoc]
  · have e2 : l.drop k = 10 :: l.drop (k + 1) := by rw [← h10]; exact List.drop_eq_getElem_cons hk
    have e3 := List.take_append_drop (k - f) (l.drop f)
    rw [List.drop_drop, show f + (k - f) = k by omega, e2] at e3
    exact e3.symm
set_option maxRecDepth 100000 in
set_option maxHeartbeats 8000000 in
theorem rparse_ok (s : ByteArray) (hs : s.size ≤ 65536) (w : World) : Calls Tryz.prog 38 #[.string s] w (ParseV s.data.toList w) := by
  have HLS := Lib.hid (Lib.size_eq s)
  go_enter Tryz.func38, Tryz.ntmps38
  go_wp2
  go_loopw [5, 6, 7] (fun v sf si wr => ∃ (ys : List Att) (M f k : Nat) (pv : Option Addr) (cv : Nat), v = .slice pv M cv ∧ sf = .int .i64 f ∧ si = .int .i64 k ∧ f ≤ k ∧ k ≤ s.size ∧ M ≤ k ∧ Hid (M ≤ 4096) ∧ Hid (ys.length = M) ∧ Hid (s.data.toList.take f = lines ys) ∧ Hid (AllOk ys) ∧ Hid (∀ b ∈ (s.data.toList.drop f).take (k - f), b ≠ 10) ∧ Hid (wr.ownsRow w.heap.size 32 6 (.slice pv M cv) ys.length (cls ys)) ∧ Hid (Below w.heap.size w wr)) (fun _ _ si _ => s.size - (intOf si).toNat)
  case atStart => exact ⟨[], 0, 0, 0, none, 0, rfl, rfl, rfl, Nat.le_refl _, Nat.zero_le _, Nat.le_refl _, Nat.zero_le _, rfl, rfl, allOk_nil, fun b hb => by simp at hb, World.ownsRow_nil _ _ _ _, Below.refl _ _⟩
  case round =>
    obtain ⟨ys, M, f, k, pv, cv, rfl, rfl, rfl, hfk, hks, hM, HM4, HM, HT, HOK, HN, HO, HB⟩ := hrel
    by_cases hlt : k < s.size
    · by_cases h10 : s[k] = 10
      · have hb10 : ((s[k].toNat : Int) == 10) = true := by rw [h10]; rfl
        have HL := Lib.hid (take_line (l := s.data.toList) hfk (by rw [← HLS.out]; exact hlt) h10)
        have hi0 : (0 : Int) ≤ (f : Int) := by omega
        have hi1 : (f : Int) ≤ (k : Int) := by omega
        have hi2 : (k : Int) ≤ (s.size : Int) := by omega
        have HRD : Hid (∀ W, Calls Tryz.prog 68 #[.string (s.extract f k)] W fun e w' => RReadV (s.extract f k) e ∧ Below W.heap.size W w') := fun W => rread_ok _ (by have := size_extract s f k; omega) W
        have HX := Lib.hid (ext_list s f k)
        clear h10
        obtain ⟨ln, hln⟩ : ∃ ln, s.extract f k = ln := ⟨_, rfl⟩
        rw [hln] at HRD HX
        have HLN := Lib.hid hln
        clear hln
        go_wp2_with fail
        rw [HLN.out]
        refine (HRD.out _).mono ?_
        rintro e w3 ⟨hrr, hb3⟩
        have HB3 := Lib.hid (bel2 HB.out hb3)
        have HO3 := Lib.hid (own_below HO.out hb3)
        clear hb3 HO HB HRD
        rcases hrr with ⟨x, hx, hex, rfl⟩ | ⟨hno, rfl⟩
        · have HXO := Lib.hid hx
          have HT2 : Hid (s.data.toList.take (k + 1) = lines (ys ++ [x])) := by
            rw [Hid, HL.out.1, HT.out, ← HX.out, hex, lines_append, lines_one]
          have HOK2 : Hid (AllOk (ys ++ [x])) := allOk_append.2 ⟨HOK.out, fun y hy => by obtain rfl := List.mem_singleton.1 hy; exact hx⟩
          have HM2 : Hid (M + 1 ≤ 4096 ∧ M + 1 ≤ k + 1) := by
            have h1 := (lines_size HOK2.out).1
            rw [← HT2.out, List.length_take, List.length_append, HM.out] at h1
            have h2 := HLS.out
            simp only [List.length_cons, List.length_nil] at h1
            exact ⟨by omega, by omega⟩
          clear hx hex HL
          have hbw := bel2 (bel_new w3 (.cells #[.int .i64 x.t, .int .i64 x.k, .int .i64 x.i, .int .u32 x.g, .int .i64 x.y, .int .i64 x.n] 32)) (bel_new _ (.cells #[.int .i64 x.t, .int .i64 x.k, .int .i64 x.i, .int .u32 x.g, .int .i64 x.y, .int .i64 x.n] 32))
          have hx2 : Bk ((w3.alloc (.cells #[.int .i64 x.t, .int .i64 x.k, .int .i64 x.i, .int .u32 x.g, .int .i64 x.y, .int .i64 x.n] 32)).alloc (.cells #[.int .i64 x.t, .int .i64 x.k, .int .i64 x.i, .int .u32 x.g, .int .i64 x.y, .int .i64 x.n] 32)) (w3.heap.size + 1) 32 x.cl.toArray := by
            have := Bk.new (w3.alloc (.cells #[.int .i64 x.t, .int .i64 x.k, .int .i64 x.i, .int .u32 x.g, .int .i64 x.y, .int .i64 x.n] 32)) 32 #[.int .i64 x.t, .int .i64 x.k, .int .i64 x.i, .int .u32 x.g, .int .i64 x.y, .int .i64 x.n]
            rw [size_up] at this
            exact this
          obtain ⟨p8, c8, w8, hr8, ho8, hk8⟩ := app_one HM.out (own_below HO3.out hbw) hx2 (by rw [HM.out]; exact Nat.le_trans HM4.out (by decide)) (Nat.le_trans HB3.out.size hbw.size)
          have HB8 := Lib.hid ((bel2 HB3.out hbw).trans (hk8.below (Nat.le_trans HB3.out.size hbw.size) (fun b e => (HO3.out.lt b (by rw [e]; rfl)).1)))
          have HO8 := Lib.hid ho8
          clear hbw hx2 ho8 hk8
          go_wp2_with (at_builtin; refine wpList_append_j rfl _ _ _ _ rfl _ _ rfl rfl _ _ hr8 ?_)
          go_roundw
          case rel => exact ⟨ys ++ [x], M + 1, k + 1, k + 1, p8, c8, rfl, by go_num, by go_num, Nat.le_refl _, by omega, HM2.out.2, HM2.out.1, by rw [Hid, List.length_append, HM.out]; rfl, HT2.out, HOK2.out, fun b hb => by simp at hb, HO8.out, HB8.out⟩
          case measure => simp [intOf]; omega
        · have HP : Hid (PRel s.data.toList ys (s.data.toList.drop f) ∧ s.data.toList.drop f ≠ []) := by
            have hbad : BadLine (s.data.toList.drop f) := bad_of_line HL.out.2 HN.out (fun a ha e => hno a ha (by rw [HX.out]; exact e))
            exact ⟨⟨by rw [← HT.out, List.take_append_drop], HOK.out, .inr hbad⟩, hbad.1⟩
          clear hno
          go_wp2
          go_ret3
          exact ⟨ys, _, HP.out.1, bel2 HB3.out (bel_new _ _), .inr ⟨HP.out.2, by rw [HM.out]; rfl⟩⟩
      · have hb10 : ((s[k].toNat : Int) == 10) = false := by rw [beq_eq_false_iff_ne]; intro e; exact h10 (UInt8.toNat_inj.1 (by show s[k].toNat = 10; omega))
        have HN2 : Hid (∀ b ∈ (s.data.toList.drop f).take (k + 1 - f), b ≠ 10) := fun b hb => by
          have hkl : k < s.data.toList.length := by rw [← HLS.out]; exact hlt
          rw [show k + 1 - f = (k - f) + 1 by omega, List.take_succ_eq_append_getElem (by rw [List.length_drop]; omega)] at hb
          rcases List.mem_append.1 hb with hb | hb
          · exact HN.out b hb
          · obtain rfl := List.mem_singleton.1 hb
            have : (s.data.toList.drop f)[k - f]'(by rw [List.length_drop]; omega) = s[k] := by
              rw [List.getElem_drop]
              have e : f + (k - f) = k := by omega
              simp only [e]
              rfl
            rw [this]; exact h10
        clear h10
        go_wp2
        go_roundw
        case rel => exact ⟨ys, M, f, k + 1, pv, cv, rfl, rfl, by go_num, by omega, by omega, by omega, HM4.out, HM.out, HT.out, HOK.out, HN2.out, HO.out, HB.out⟩
        case measure => simp [intOf]; omega
    · obtain rfl : k = s.size := by omega
      clear hlt
      by_cases hf : f < s.size
      · have HP : Hid (PRel s.data.toList ys (s.data.toList.drop f) ∧ s.data.toList.drop f ≠ []) := by
          have hne : s.data.toList.drop f ≠ [] := fun e => by
            have := congrArg List.length e
            rw [List.length_drop, ← HLS.out] at this
            simp at this
            omega
          have hn : ∀ b ∈ s.data.toList.drop f, b ≠ 10 := fun b hb => HN.out b (by rw [List.take_of_length_le (by rw [List.length_drop, ← HLS.out]; exact Nat.le_refl _)]; exact hb)
          exact ⟨⟨by rw [← HT.out, List.take_append_drop], HOK.out, .inr (bad_of_end hne hn)⟩, hne⟩
        go_wp2
        go_ret3
        exact ⟨ys, _, HP.out.1, HB.out, .inr ⟨HP.out.2, by rw [HM.out]; rfl⟩⟩
      · obtain rfl : f = s.size := by omega
        have HP : Hid (PRel s.data.toList ys []) := by
          have h1 := HT.out
          rw [List.take_of_length_le (by rw [← HLS.out]; exact Nat.le_refl _)] at h1
          exact ⟨by rw [h1, List.append_nil], HOK.out, .inl rfl⟩
        go_wp2
        go_ret3
        exact ⟨ys, [], HP.out, HB.out, .inl ⟨rfl, _, rfl, HO.out⟩⟩
end Go.Proofs.YtenggngcigkakaaGreatDoor
