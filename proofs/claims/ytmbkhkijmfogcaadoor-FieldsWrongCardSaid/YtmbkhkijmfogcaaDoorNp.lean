/- What strconv.Atoi and gens.Parse return for any text; the contract of the program's readRef. -/
import Derived.Test.YtmbkhkijmfogcaaDoorNo
import Derived.Shelf.Strconv.ErrVarAll
import Derived.Lib.ParseIntBTie
import Derived.Lib.AtoiAllCases
namespace Go.Proofs.YtmbkhkijmfogcaaDoor
open Go.RowKit

theorem str_eq {s : ByteArray} {l : List UInt8} (h : s.data.toList = l) : s = ⟨l.toArray⟩ := by
  apply ByteArray.ext
  rw [← h]

theorem atoi_any (s : ByteArray) (hs : s.size ≤ 281474976710656) (w : World) (hse : Sent w) :
    Calls Tryd.prog 57 #[.string s] w fun e w' => ∃ (v : Int) (x : Value), (-9223372036854775808 ≤ v ∧ v ≤ 9223372036854775807) ∧ (∀ p : Nat, p ≤ 4294967295 → s.data.toList = Lib.decDigits p → v = p) ∧ (s.data.toList = [45] → v = 0) ∧ e = .returned (.tuple #[.int .i64 v, x]) ∧ Below w.heap.size w w' := by
  obtain ⟨⟨t1, p1, hv1⟩, ⟨t2, p2, hv2⟩⟩ := hse
  have hd : ∀ p : Nat, p ≤ 4294967295 → s.data.toList = Lib.decDigits p → Lib.atoiAll s.data.toList = .ok (p : Int) := fun p hp h => by rw [h, ← Lib.parseIntB_64]; exact parseI_digits p hp
  have hm : s.data.toList = [45] → (match Lib.atoiAll s.data.toList with | .ok _ => False | .range => False | _ => True) := fun h => by rw [h]; trivial
  cases hp : Lib.atoiAll s.data.toList with
  | ok v =>
    refine (Tryd.strconv_Atoi_ok s (by omega) v hp w).mono ?_
    rintro e w' ⟨rfl, h⟩
    refine ⟨v, _, Lib.atoiAll_bounds hp, fun p hp1 hp2 => ?_, fun h => ?_, rfl, ?_⟩
    · have := hd p hp1 hp2
      rw [hp] at this
      injection this
    · have := hm h
      rw [hp] at this
      exact this.elim
    · rcases h with rfl | ⟨t, rfl⟩
      · exact Below.refl _ _
      · exact Lib.bytesWorld_below _ _ _
  | range =>
    exact (Any.strconv_Atoi_range_var Tryd.laysC172 s hs hp t2 p2 w hv2).mono fun e w' ⟨N, he, _, _, hb⟩ => ⟨_, _, Lib.atoiSat_bounds _, fun p hp1 hp2 => (by have := hd p hp1 hp2; rw [hp] at this; cases this), fun h => (by have := hm h; rw [hp] at this; exact this.elim), he, hb⟩
  | _ =>
    exact (Any.strconv_Atoi_syntax_var Tryd.laysC172 s hs hp t1 p1 w hv1).mono fun e w' ⟨N, he, _, _, hb⟩ => ⟨0, _, by omega, fun p hp1 hp2 => (by have := hd p hp1 hp2; rw [hp] at this; cases this), fun _ => rfl, he, hb⟩

theorem gparse_any (s : ByteArray) (hs : s.size ≤ 281474976710656) (w : World) (he : Env w) :
    Calls Tryd.prog 58 #[.string s] w fun e w' => ∃ (u r : Int), (0 ≤ u ∧ u ≤ 4294967295) ∧ (∀ g : Nat, 1 ≤ g → g ≤ 4294967295 → s.data.toList = Lib.decDigits g → u = g) ∧ (s.data.toList = [] → u = 0) ∧ e = .returned (.tuple #[.int .u32 u, .int .i64 r]) ∧ Below w.heap.size w w' := by
  cases hp : Lib.parseUintB 32 s.data.toList with
  | ok u =>
    have hu : u ≤ 4294967295 := by have := Lib.parseUintB_le hp; omega
    by_cases h0 : u = 0
    · subst h0
      refine (parse_naught s hs hp w).mono ?_
      rintro e w' ⟨rfl, hb⟩
      exact ⟨0, _, by omega, fun g h1 h2 h3 => by rw [h3, parseB_digits g h2] at hp; injection hp with hp; omega, fun _ => rfl, rfl, hb⟩
    · by_cases hd : s.data.toList = Lib.decDigits u
      · rw [str_eq hd]
        refine (parse_same u (by omega) hu w (.inr he.tab)).mono ?_
        rintro e w' ⟨rfl, hb⟩
        exact ⟨u, _, by omega, fun g h1 h2 h3 => by have := digits_inj (show Lib.decDigits u = Lib.decDigits g from by simpa using h3); omega, fun h => absurd (by simpa using h) (decDigits_ne_nil u), rfl, hb⟩
      · refine (parse_other s hs u (by omega) hp hd w (.inr he.tab)).mono ?_
        rintro e w' ⟨rfl, hb⟩
        exact ⟨0, _, by omega, fun g h1 h2 h3 => by
          have hp' := hp
          rw [h3, parseB_digits g h2] at hp'
          injection hp' with hp'
          subst hp'
          exact absurd h3 hd, fun _ => rfl, rfl, hb⟩
  | _ =>
    refine (parse_bad s hs (by intro u hu; rw [hu] at hp; cases hp) w he.sent).mono ?_
    rintro e w' ⟨rfl, hb⟩
    exact ⟨0, _, by omega, fun g h1 h2 h3 => (by rw [h3, parseB_digits g h2] at hp; cases hp), fun _ => rfl, rfl, hb⟩


theorem cut_none (l : List UInt8) (m : UInt8) (h : ∀ x ∈ l, x ≠ m) : Lib.cut l [m] = (l, [], false) := by
  unfold Lib.cut
  rw [index_none l h]
  simp
theorem cut_ref (s : ByteArray) (hs : s.size ≤ 100000) (w : World) (he : Env w) :
    Calls Tryd.prog 56 #[.string s, .string ⟨#[46]⟩] w fun e w' => ∃ (a b : ByteArray) (f : Bool), (a.size ≤ 100000 ∧ b.size ≤ 100000) ∧ (∀ P G : Nat, s.data.toList = Lib.decDigits P ++ 46 :: Lib.decDigits G → a.data.toList = Lib.decDigits P ∧ b.data.toList = Lib.decDigits G) ∧ (s.data.toList = [45] → a.data.toList = [45] ∧ b.data.toList = []) ∧ e = .returned (.tuple #[.string a, .string b, .bool f]) ∧ Below w.heap.size w w' := by
  obtain ⟨M, hM⟩ := he.ml
  refine (Tryd.strings_Cut s ⟨#[46]⟩ M w (by omega) hM).mono ?_
  rintro e w' ⟨rfl, n, rfl⟩
  have hl := cut_len s.data.toList [46]
  have hs' := Lib.size_eq s
  refine ⟨_, _, _, ⟨?_, ?_⟩, fun P G h => ?_, fun h => ?_, rfl, bel_drn _ n⟩
  · show (Lib.cut s.data.toList [46]).1.toArray.size ≤ 100000
    simp only [List.size_toArray]
    omega
  · show (Lib.cut s.data.toList [46]).2.1.toArray.size ≤ 100000
    simp only [List.size_toArray]
    omega
  · show (Lib.cut s.data.toList [46]).1 = _ ∧ (Lib.cut s.data.toList [46]).2.1 = _
    rw [h, cut_mark _ _ (digit_ne (.inl rfl) P)]
    exact ⟨rfl, rfl⟩
  · show (Lib.cut s.data.toList [46]).1 = _ ∧ (Lib.cut s.data.toList [46]).2.1 = _
    rw [h, cut_none _ _ (by decide)]
    exact ⟨rfl, rfl⟩

/-- What readRef comes to: some reference, and the one whose text was read, if there is one. -/
def RfV (l : List UInt8) (r : Rf) : Prop := Rr r ∧ ∀ q, RfOk q → l = rtxt q → r = q
set_option maxHeartbeats 1000000 in
theorem readRef_any (s : ByteArray) (hs : s.size ≤ 100000) (w : World) (he : Env w) :
    Calls Tryd.prog 46 #[.string s] w fun e w' => ∃ r : Rf, RfV s.data.toList r ∧ e = .returned (.agg #[.int .i64 r.1, .int .u32 r.2]) ∧ Below w.heap.size w w' := by
  obtain ⟨w1, hw1⟩ : ∃ w1, w.alloc (.cells #[.int .i64 0, .int .u32 0] 24) = w1 := ⟨_, rfl⟩
  have hb1 : Bk w1 w.heap.size 24 (rfc (0, 0)) := by rw [← hw1]; exact Bk.new _ _ _
  have hB : Below w.heap.size w w1 := by rw [← hw1]; exact (Below.refl _ w).alloc (Nat.le_refl _) _
  have HW1 := Lib.hid hw1
  have HB := Lib.hid (And.intro hb1 hB)
  have HE := Lib.hid (he.below hB)
  have HS := Lib.hid hs
  clear hw1 hb1 hB he hs
  go_enter Tryd.func46, Tryd.ntmps46
  go_wp2_with fail
  rw [HW1.out]
  refine (cut_ref s HS.out _ HE.out).mono ?_
  rintro e w2 ⟨a, b, f, ⟨hsa, hsb⟩, hx, hy, rfl, hb2⟩
  have HX := Lib.hid (And.intro hx hy)
  have HB2 := Lib.hid hb2
  have HE2 := Lib.hid (HE.out.below hb2)
  clear hx hy hb2
  go_wp2_with fail
  refine (atoi_any a (by omega) _ HE2.out.sent).mono ?_
  rintro e w3 ⟨v, x, hv, hv1, hv2, rfl, hb3⟩
  have HV := Lib.hid (And.intro hv (And.intro hv1 hv2))
  have HB3 := Lib.hid (bel2 HB2.out hb3)
  have HE3 := Lib.hid (HE2.out.below hb3)
  clear hv hv1 hv2 hb3
  go_wp2_with fail
  refine (gparse_any b (by omega) _ HE3.out).mono ?_
  rintro e w4 ⟨u, y, hu, hu1, hu2, rfl, hb4⟩
  have HU := Lib.hid (And.intro hu (And.intro hu1 hu2))
  have HB4 := Lib.hid (bel2 HB3.out hb4)
  have hbk := HB.out.1.below HB4.out
  obtain ⟨c0, c1⟩ := hbk.rf
  obtain ⟨f0, f1⟩ := hbk.rfz
  simp only at c0 c1
  have HR : Hid (RfV s.data.toList (v, u)) := by
    refine ⟨⟨HV.out.1.1, HV.out.1.2, HU.out.1.1, HU.out.1.2⟩, fun q hq ht => ?_⟩
    by_cases h0 : q = (0, 0)
    · subst h0
      obtain ⟨h1, h2⟩ := HX.out.2 ht
      exact Prod.ext (HV.out.2.2 h1) (HU.out.2.2 h2)
    · obtain ⟨p, g, rfl, h1, h2, h3, h4⟩ := rfok_nat hq h0
      rw [h4] at ht
      obtain ⟨k1, k2⟩ := HX.out.1 p g ht
      exact Prod.ext (HV.out.2.1 p (by omega) k1) (HU.out.2.1 g h2 h3 k2)
  clear hu hu1 hu2 hb4 hbk
  go_wp2
  refine bodyPost_ret (v := .agg #[.int .i64 v, .int .u32 u]) ?_ rfl ⟨(v, u), HR.out, rfl, ?_⟩
  · simp [results, Tryd.f46, go_sem, *]
  · exact bel_two (bel2 HB.out.2 HB4.out) (Nat.le_refl _) _ _
end Go.Proofs.YtmbkhkijmfogcaaDoor
