/- What strconv.ParseInt and gens.Parse return for any text; the contract of the program's read. -/
import Derived.Test.YtenggngcigkakaaGreatDoorDv
import Derived.Test.YtenggngcigkakaaGreatDoorDn
import Derived.Test.YtenggngcigkakaaGreatDoorDu
import Derived.Shelf.Strconv.ErrVarParseInt
namespace Go.Proofs.YtenggngcigkakaaGreatDoor
open Go.RowKit

theorem str_eq {s : ByteArray} {l : List UInt8} (h : s.data.toList = l) : s = ⟨l.toArray⟩ := by
  apply ByteArray.ext
  rw [← h]

theorem pint_any (s : ByteArray) (hs : s.size ≤ 281474976710656) (w : World) (hse : Sent w) :
    Calls Tryz.prog 91 #[.string s, .int .i64 10, .int .i64 64] w fun e w' => ∃ (v : Int) (x : Value), (-9223372036854775808 ≤ v ∧ v ≤ 9223372036854775807) ∧ (∀ p : Nat, p ≤ 4294967295 → s.data.toList = Lib.decDigits p → v = p) ∧ e = .returned (.tuple #[.int .i64 v, x]) ∧ Below w.heap.size w w' := by
  obtain ⟨⟨t1, p1, hv1⟩, ⟨t2, p2, hv2⟩⟩ := hse
  cases hp : Lib.parseIntB 64 s.data.toList with
  | ok v =>
    refine (Tryz.strconv_ParseInt_10_at64_ok s (by omega) v hp w).mono ?_
    rintro e w' ⟨rfl, h⟩
    have hb := Lib.parseIntB_bounds hp
    have e63 : ((2 ^ (64 - 1) : Nat) : Int) = 9223372036854775808 := by decide
    rw [e63] at hb
    refine ⟨v, _, by omega, fun p hp1 hp2 => ?_, rfl, ?_⟩
    · rw [hp2, parseI_digits p hp1] at hp
      injection hp with hp
      exact hp.symm
    · rcases h with rfl | ⟨t, rfl⟩
      · exact Below.refl _ _
      · exact Lib.bytesWorld_below _ _ _
  | _ =>
    first
    | exact (Any.strconv_ParseInt_10_at64_syntax_var Tryz.laysC174 s hs hp t1 p1 w hv1).mono fun e w' ⟨N, he, _, _, hb⟩ => ⟨0, _, by omega, fun p hp1 hp2 => (by rw [hp2, parseI_digits p hp1] at hp; cases hp), he, hb⟩
    | exact (Any.strconv_ParseInt_10_at64_range_var Tryz.laysC174 s hs hp t2 p2 w hv2).mono fun e w' ⟨N, he, _, _, hb⟩ => ⟨_, _, (by unfold Lib.intSat; split <;> decide), fun p hp1 hp2 => (by rw [hp2, parseI_digits p hp1] at hp; cases hp), he, hb⟩

theorem gparse_any (s : ByteArray) (hs : s.size ≤ 281474976710656) (w : World) (he : Env w) :
    Calls Tryz.prog 155 #[.string s] w fun e w' => ∃ (u r : Int), (0 ≤ u ∧ u ≤ 4294967295) ∧ (∀ g : Nat, 1 ≤ g → g ≤ 4294967295 → s.data.toList = Lib.decDigits g → u = g) ∧ e = .returned (.tuple #[.int .u32 u, .int .i64 r]) ∧ Below w.heap.size w w' := by
  cases hp : Lib.parseUintB 32 s.data.toList with
  | ok u =>
    have hu : u ≤ 4294967295 := by have := Lib.parseUintB_le hp; omega
    by_cases h0 : u = 0
    · subst h0
      refine (parse_naught s hs hp w).mono ?_
      rintro e w' ⟨rfl, hb⟩
      exact ⟨0, _, by omega, fun g h1 h2 h3 => by rw [h3, parseB_digits g h2] at hp; injection hp with hp; omega, rfl, hb⟩
    · by_cases hd : s.data.toList = Lib.decDigits u
      · rw [str_eq hd]
        refine (parse_same u (by omega) hu w (.inr he.tab)).mono ?_
        rintro e w' ⟨rfl, hb⟩
        exact ⟨u, _, by omega, fun g h1 h2 h3 => by have := digits_inj (show Lib.decDigits u = Lib.decDigits g from by simpa using h3); omega, rfl, hb⟩
      · refine (parse_other s hs u (by omega) hp hd w (.inr he.tab)).mono ?_
        rintro e w' ⟨rfl, hb⟩
        exact ⟨0, _, by omega, fun g h1 h2 h3 => by
          have hp' := hp
          rw [h3, parseB_digits g h2] at hp'
          injection hp' with hp'
          subst hp'
          exact absurd h3 hd, rfl, hb⟩
  | _ =>
    refine (parse_bad s hs (by intro u hu; rw [hu] at hp; cases hp) w he.sent).mono ?_
    rintro e w' ⟨rfl, hb⟩
    exact ⟨0, _, by omega, fun g h1 h2 h3 => (by rw [h3, parseB_digits g h2] at hp; cases hp), rfl, hb⟩

/-- What the program's read comes to: some name in numbers, and the name whose text was read, if there is one. -/
def ReadV (m : UInt8) (s : ByteArray) (e : Ending) : Prop :=
  ∃ k p g : Int, Rg k p g ∧ e = .returned (.agg #[.int .i64 k, .int .i64 p, .int .i64 g]) ∧ ∀ N K P G : Nat, Okn N K P G → N ≤ 256 → s.data.toList = txt m K P G → k = K ∧ p = P ∧ g = G

theorem cut_any (m : UInt8) (hm : Mark m) (s : ByteArray) (hs : s.size ≤ 100000) (w : World) (he : Env w) :
    Calls Tryz.prog 66 #[.string s, .string ⟨#[m]⟩] w fun e w' => ∃ (a b : ByteArray) (f : Bool), (a.size ≤ 100000 ∧ b.size ≤ 100000) ∧ (∀ P G : Nat, s.data.toList = Lib.decDigits P ++ m :: Lib.decDigits G → a.data.toList = Lib.decDigits P ∧ b.data.toList = Lib.decDigits G) ∧ e = .returned (.tuple #[.string a, .string b, .bool f]) ∧ Below w.heap.size w w' := by
  obtain ⟨M, hM⟩ := he.ml
  refine (Tryz.strings_Cut s ⟨#[m]⟩ M w (by omega) hM).mono ?_
  rintro e w' ⟨rfl, n, rfl⟩
  have hl := cut_len s.data.toList [m]
  have hs' := Lib.size_eq s
  refine ⟨_, _, _, ⟨?_, ?_⟩, fun P G h => ?_, rfl, bel_drn _ n⟩
  · show (Lib.cut s.data.toList [m]).1.toArray.size ≤ 100000
    simp only [List.size_toArray]
    omega
  · show (Lib.cut s.data.toList [m]).2.1.toArray.size ≤ 100000
    simp only [List.size_toArray]
    omega
  · show (Lib.cut s.data.toList [m]).1 = _ ∧ (Lib.cut s.data.toList [m]).2.1 = _
    rw [h, cut_mark _ _ (digit_ne hm P)]
    exact ⟨rfl, rfl⟩

theorem pre_yes (c : UInt8) (s : ByteArray) (hs : s.size ≤ 100000) (h : Lib.hasPrefix s.data.toList [c] = true) (w : World) :
    Calls Tryz.prog 154 #[.string s, .string ⟨#[c]⟩] w fun e w' => ∃ r : ByteArray, r.size ≤ 100000 ∧ (∀ (m : UInt8) (K P G : Nat), s.data.toList = txt m K P G → c = letter K ∧ r.data.toList = Lib.decDigits P ++ m :: Lib.decDigits G) ∧ e = .returned (.tuple #[.string r, .bool true]) ∧ w = w' := by
  refine (Tryz.strings_CutPrefix s ⟨#[c]⟩ w).mono ?_
  rintro e w' ⟨rfl, rfl⟩
  have hl := trim_len s.data.toList [c]
  have hs' := Lib.size_eq s
  rw [show Lib.hasPrefix s.data.toList (⟨#[c]⟩ : ByteArray).data.toList = true from h]
  refine ⟨_, ?_, fun m K P G h' => ?_, rfl, rfl⟩
  · show (Lib.trimPrefix s.data.toList [c]).toArray.size ≤ 100000
    simp only [List.size_toArray]
    omega
  · rw [h', pre_txt] at h
    have hc : c = letter K := by simpa using h
    refine ⟨hc, ?_⟩
    show Lib.trimPrefix s.data.toList [c] = _
    rw [h', hc, trim_txt]
theorem pre_no (c : UInt8) (s : ByteArray) (h : Lib.hasPrefix s.data.toList [c] = false) (w : World) :
    Calls Tryz.prog 154 #[.string s, .string ⟨#[c]⟩] w fun e w' => ∃ r : ByteArray, e = .returned (.tuple #[.string r, .bool false]) ∧ w = w' := by
  refine (Tryz.strings_CutPrefix s ⟨#[c]⟩ w).mono ?_
  rintro e w' ⟨rfl, rfl⟩
  rw [show Lib.hasPrefix s.data.toList (⟨#[c]⟩ : ByteArray).data.toList = false from h]
  exact ⟨_, rfl, rfl⟩
end Go.Proofs.YtenggngcigkakaaGreatDoor
