/- The contracts of the document's Parse of generations and of its ref. -/
import Derived.Test.YtmbkhkijmfogcaaDoorNr
namespace Go.Proofs.YtmbkhkijmfogcaaDoor
open Go.RowKit

theorem number_any (s : ByteArray) (hs : s.size ≤ 100000) (w : World) :
    Calls Tryd.prog 47 #[.string s] w fun e w' => NumRes s e ∧ Below w.heap.size w w' := by
  by_cases h : s.size = 0 ∨ 10 < s.size
  · exact number_len s w (by omega) h
  · exact number_loop s w (by omega) (by omega)

/-- What the document's Parse of a generation comes to. -/
def GenRes (l : List UInt8) (u c : Int) : Prop := (c = 0 ∧ ∃ g : Nat, 1 ≤ g ∧ g ≤ 4294967295 ∧ l = Lib.decDigits g ∧ u = g) ∨ (c = 9 ∧ u = 0 ∧ ∀ g : Nat, 1 ≤ g → g ≤ 4294967295 → l ≠ Lib.decDigits g)
set_option maxHeartbeats 1000000 in
theorem dgparse_any (s : ByteArray) (hs : s.size ≤ 100000) (w : World) :
    Calls Tryd.prog 48 #[.string s] w fun e w' => ∃ u c : Int, GenRes s.data.toList u c ∧ e = .returned (.tuple #[.int .u32 u, .int .i64 c]) ∧ Below w.heap.size w w' := by
  have HN := Lib.hid (number_any s hs)
  clear hs
  go_enter Tryd.func48, Tryd.ntmps48
  go_wp2_with fail
  refine (HN.out _).mono ?_
  rintro e w1 ⟨⟨n, hn, hd, rfl⟩ | ⟨n, hn, hd, rfl⟩, hb⟩
  · have HD := Lib.hid hd
    have HB := Lib.hid hb
    clear hd hb HN
    have h3 : n = 0 ∨ 4294967295 < n ∨ (1 ≤ n ∧ n ≤ 4294967295) := by omega
    rcases h3 with rfl | h3 | ⟨h3, h4⟩
    · have HR : Hid (GenRes s.data.toList 0 9) := .inr ⟨rfl, rfl, fun g h1 h2 e => by have := digits_inj (HD.out.symm.trans e); omega⟩
      go_wp2
      go_ret2
      exact ⟨0, 9, HR.out, rfl, HB.out⟩
    · have HR : Hid (GenRes s.data.toList 0 9) := .inr ⟨rfl, rfl, fun g h1 h2 e => by have := digits_inj (HD.out.symm.trans e); omega⟩
      have h5 : ((n : Int) == 0) = false := beq_eq_false_iff_ne.2 (by omega)
      have h6 : decide ((4294967295 : Int) < (n : Int)) = true := decide_eq_true (by omega)
      go_wp2
      go_ret2
      exact ⟨0, 9, HR.out, rfl, HB.out⟩
    · have HR : Hid (GenRes s.data.toList n 0) := .inl ⟨rfl, n, h3, h4, HD.out, rfl⟩
      have h5 : ((n : Int) == 0) = false := beq_eq_false_iff_ne.2 (by omega)
      have h6 : decide ((4294967295 : Int) < (n : Int)) = false := decide_eq_false (by omega)
      have h7 : IntKind.u32.wrap (n : Int) = (n : Int) := IntWalk.u32_in _ (by omega)
      go_wp2
      go_ret2
      exact ⟨n, 0, HR.out, rfl, HB.out⟩
  · have HR : Hid (GenRes s.data.toList 0 9) := .inr ⟨rfl, rfl, fun g h1 h2 e => hd g h2 e⟩
    have HB := Lib.hid hb
    clear hd hb HN
    go_wp2
    go_ret2
    exact ⟨0, 9, HR.out, rfl, HB.out⟩

/-- What the document's ref comes to. -/
def RefRes (l : List UInt8) (r : Rf) (b : Bool) : Prop := Rr r ∧ ((b = true ∧ RfOk r ∧ l = rtxt r) ∨ (b = false ∧ ∀ q, RfOk q → l ≠ rtxt q))
theorem refres_none {l : List UInt8} (h1 : l ≠ [45]) (h2 : ∀ x ∈ l, x ≠ 46) : RefRes l (0, 0) false :=
  ⟨rfok_none.rr, .inr ⟨rfl, fun q hq e => by
    by_cases h0 : q = (0, 0)
    · subst h0; exact h1 e
    · rw [rtxt_some h0] at e
      exact h2 46 (by rw [e]; exact dot_mem _ _) rfl⟩⟩
/-- The text around its first dot. -/
structure DotAt (s : ByteArray) (k : Nat) : Prop where
  lt : k < s.size
  pre : ∀ x ∈ s.data.toList.take k, x ≠ 46
  eq : s.data.toList = s.data.toList.take k ++ 46 :: s.data.toList.drop (k + 1)
theorem dotAt {s : ByteArray} {k : Nat} (hk : k < s.size) (hp : ∀ x ∈ s.data.toList.take k, x ≠ 46) (hd : s[k] = 46) : DotAt s k := by
  refine ⟨hk, hp, ?_⟩
  have hl := Lib.size_eq s
  have hk2 : k < s.data.toList.length := by omega
  have e1 : s.data.toList[k] = 46 := hd
  calc s.data.toList = s.data.toList.take k ++ s.data.toList.drop k := (List.take_append_drop k _).symm
    _ = _ := by rw [List.drop_eq_getElem_cons hk2, e1]
theorem DotAt.both {s : ByteArray} {k : Nat} (h : DotAt s k) {q : Rf} (hq : RfOk q) (hm : s.data.toList ≠ [45]) (e : s.data.toList = rtxt q) :
    ∃ p g : Nat, q = ((p : Int), (g : Int)) ∧ p < 256 ∧ 1 ≤ g ∧ g ≤ 4294967295 ∧ s.data.toList.take k = Lib.decDigits p ∧ s.data.toList.drop (k + 1) = Lib.decDigits g := by
  by_cases h0 : q = (0, 0)
  · subst h0; exact absurd e hm
  · obtain ⟨p, g, rfl, h1, h2, h3, h4⟩ := rfok_nat hq h0
    rw [h4, h.eq] at e
    obtain ⟨e1, e2⟩ := split_eq h.pre (digit_ne (.inl rfl) p) e
    exact ⟨p, g, rfl, h1, h2, h3, e1, e2⟩
theorem ext_take (s : ByteArray) (k : Nat) : (s.extract 0 k).data.toList = s.data.toList.take k := Lib.extract_from_zero s k
theorem ext_drop (s : ByteArray) (k : Nat) : (s.extract k s.size).data.toList = s.data.toList.drop k := Lib.extract_to_end s k
theorem refres_dot {s : ByteArray} {k : Nat} (h : DotAt s k) (hm : s.data.toList ≠ [45]) {n : Nat} (hn : n ≤ 9999999999) {b : Bool} {u c : Int} (hnum : (b = true ∧ s.data.toList.take k = Lib.decDigits n) ∨ (b = false ∧ NoNum (s.data.toList.take k))) (hg : GenRes (s.data.toList.drop (k + 1)) u c) :
    RefRes s.data.toList ((n : Int), u) (b && (c == 0) && decide ((n : Int) < 256)) := by
  have hu : 0 ≤ u ∧ u ≤ 4294967295 := by
    rcases hg with ⟨_, g, _, h2, _, rfl⟩ | ⟨_, rfl, _⟩
    · omega
    · omega
  refine ⟨⟨by show -9223372036854775808 ≤ (n : Int); omega, by show (n : Int) ≤ 9223372036854775807; omega, hu.1, hu.2⟩, ?_⟩
  by_cases hb : b = true ∧ c = 0 ∧ n < 256
  · obtain ⟨rfl, rfl, hn2⟩ := hb
    refine .inl ⟨by simp; omega, ?_⟩
    rcases hg with ⟨_, g, h1, h2, h3, rfl⟩ | ⟨h, _⟩
    · rcases hnum with ⟨_, h4⟩ | ⟨h4, _⟩
      · have hok : RfOk ((n : Int), (g : Int)) := .inr ⟨by show 0 ≤ (n : Int); omega, by show (n : Int) < 256; omega, by show (0 : Int) < g; omega, by show (g : Int) ≤ 4294967295; omega⟩
        refine ⟨hok, ?_⟩
        rw [rtxt_some (fun e => by have := congrArg Prod.snd e; simp only at this; omega), h.eq, h3, h4]
        simp
      · cases h4
    · omega
  · refine .inr ⟨?_, fun q hq e => ?_⟩
    · cases b with
      | false => rfl
      | true =>
        by_cases hc : c = 0
        · have : ¬ n < 256 := fun e => hb ⟨rfl, hc, e⟩
          simp
          omega
        · simp [hc]
    · obtain ⟨p, g, rfl, h1, h2, h3, e1, e2⟩ := h.both hq hm e
      rcases hnum with ⟨rfl, h4⟩ | ⟨_, h4⟩
      · have : n = p := digits_inj (h4.symm.trans e1)
        subst this
        rcases hg with ⟨rfl, _⟩ | ⟨_, _, h5⟩
        · exact hb ⟨rfl, rfl, h1⟩
        · exact h5 g h2 h3 e2
      · exact h4 p (by omega) e1

set_option maxRecDepth 100000 in
set_option maxHeartbeats 4000000 in
theorem dref_any (s : ByteArray) (hs : s.size ≤ 100000) (w : World) :
    Calls Tryd.prog 36 #[.string s] w fun e w' => ∃ (r : Rf) (b : Bool), RefRes s.data.toList r b ∧ e = .returned (.tuple #[.agg #[.int .i64 r.1, .int .u32 r.2], .bool b]) ∧ Below w.heap.size w w' := by
  by_cases hm : s.data.toList = [45]
  · have e := str_eq hm
    subst e
    have HR : Hid (RefRes [45] (0, 0) true) := ⟨rfok_none.rr, .inl ⟨rfl, rfok_none, rfl⟩⟩
    show Calls _ _ #[.string ⟨#[45]⟩] _ _
    clear hs hm
    go_enter Tryd.func36, Tryd.ntmps36
    go_wp2
    refine bodyPost_ret (v := .tuple #[.agg #[.int .i64 0, .int .u32 0], .bool true]) ?_ rfl ⟨(0, 0), true, HR.out, rfl, ?_⟩
    · simp [results, Tryd.f36, go_sem]
    · exact (Below.refl _ _).alloc (Nat.le_refl _) _
  · have heq : (s.toList == [45]) = false := by
      rw [beq_eq_false_iff_ne, ByteArray.toList_eq]
      exact hm
    have HM := Lib.hid hm
    have HNUM := Lib.hid (fun k => number_any (s.extract 0 k) (by rw [ByteArray.size_extract]; omega))
    have HGEN := Lib.hid (fun k => dgparse_any (s.extract k s.size) (by rw [ByteArray.size_extract]; omega))
    obtain ⟨w1, hw1⟩ : ∃ w1, w.alloc (.cells #[.int .i64 0, .int .u32 0] 24) = w1 := ⟨_, rfl⟩
    have hb1 : Bk w1 w.heap.size 24 (rfc (0, 0)) := by rw [← hw1]; exact Bk.new _ _ _
    have hB : Below w.heap.size w w1 := by rw [← hw1]; exact (Below.refl _ w).alloc (Nat.le_refl _) _
    have HW1 := Lib.hid hw1
    have HB := Lib.hid (And.intro hb1 hB)
    clear hw1 hb1 hB hm
    go_enter Tryd.func36, Tryd.ntmps36
    go_upto_region 1 with fail
    rw [HW1.out]
    go_wp2
    go_loopw [4] (fun i wr => ∃ k : Nat, k ≤ s.size ∧ i = .int .i64 k ∧ wr = w1 ∧ Hid (∀ x ∈ s.data.toList.take k, x ≠ 46)) (fun i _ => s.size - (intOf i).toNat)
    case atStart => exact ⟨0, Nat.zero_le _, rfl, rfl, fun x hx => by simp at hx⟩
    case round =>
      obtain ⟨k, hk, rfl, rfl, HP⟩ := hrel
      by_cases hlt : k < s.size
      · have HTS := Lib.hid (take_snoc s k hlt)
        by_cases hd : s[k] = 46
        · have HD := Lib.hid (dotAt hlt HP.out hd)
          have hd2 : ((s[k].toNat : Int) == 46) = true := by rw [hd]; rfl
          clear hd
          go_wp2_with fail
          refine (HNUM.out k _).mono ?_
          rintro e w2 ⟨hn, hb2⟩
          have hcase : ∃ (n : Nat) (b : Bool), n ≤ 9999999999 ∧ ((b = true ∧ s.data.toList.take k = Lib.decDigits n) ∨ (b = false ∧ NoNum (s.data.toList.take k))) ∧ e = .returned (.tuple #[.int .u64 n, .bool b]) := by
            rcases hn with ⟨n, h1, h2, h3⟩ | ⟨n, h1, h2, h3⟩
            · rw [ext_take] at h2; exact ⟨n, true, h1, .inl ⟨rfl, h2⟩, h3⟩
            · rw [ext_take] at h2; exact ⟨n, false, h1, .inr ⟨rfl, h2⟩, h3⟩
          obtain ⟨n, b, hn1, hn2, rfl⟩ := hcase
          have HB2 := Lib.hid hb2
          have HN2 := Lib.hid hn2
          clear hn hb2 hn2
          go_wp2_with fail
          refine (HGEN.out (k + 1) _).mono ?_
          rintro e w3 ⟨u, c, hg, rfl, hb3⟩
          rw [ext_drop] at hg
          have HR := Lib.hid (refres_dot HD.out HM.out hn1 HN2.out hg)
          have hc2 : c = 0 ∨ c = 9 := hg.elim (fun h => .inl h.1) (fun h => .inr h.1)
          have HB3 := Lib.hid (bel2 HB2.out hb3)
          have hbk := HB.out.1.below HB3.out
          obtain ⟨c0, c1⟩ := hbk.rf
          obtain ⟨f0, f1⟩ := hbk.rfz
          simp only at c0 c1
          have hw64 : IntKind.i64.wrap (n : Int) = (n : Int) := IntWalk.i64_in _ (by omega)
          clear hg hb3 hbk hd2
          cases b with
          | false =>
            have HR2 : Hid (RefRes s.data.toList ((n : Int), u) false) := HR.out
            clear hc2
            go_wp2
            refine bodyPost_ret (v := .tuple #[.agg #[.int .i64 n, .int .u32 u], .bool false]) ?_ rfl ⟨((n : Int), u), false, HR2.out, rfl, ?_⟩
            · simp [results, Tryd.f36, go_sem, *]
            · exact bel_two (bel2 HB.out.2 HB3.out) (Nat.le_refl _) _ _
          | true =>
            rcases hc2 with rfl | rfl
            · by_cases hn3 : (n : Int) < 256
              · have HR2 : Hid (RefRes s.data.toList ((n : Int), u) true) := by have := HR.out; rwa [show (true && ((0 : Int) == 0) && decide ((n : Int) < 256)) = true by simp; omega] at this
                go_wp2
                refine bodyPost_ret (v := .tuple #[.agg #[.int .i64 n, .int .u32 u], .bool true]) ?_ rfl ⟨((n : Int), u), true, HR2.out, rfl, ?_⟩
                · simp [results, Tryd.f36, go_sem, *]
                · exact bel_two (bel2 HB.out.2 HB3.out) (Nat.le_refl _) _ _
              · have HR2 : Hid (RefRes s.data.toList ((n : Int), u) false) := by have := HR.out; rwa [show (true && ((0 : Int) == 0) && decide ((n : Int) < 256)) = false by simp; omega] at this
                go_wp2
                refine bodyPost_ret (v := .tuple #[.agg #[.int .i64 n, .int .u32 u], .bool false]) ?_ rfl ⟨((n : Int), u), false, HR2.out, rfl, ?_⟩
                · simp [results, Tryd.f36, go_sem, *]
                · exact bel_two (bel2 HB.out.2 HB3.out) (Nat.le_refl _) _ _
            · have HR2 : Hid (RefRes s.data.toList ((n : Int), u) false) := HR.out
              go_wp2
              refine bodyPost_ret (v := .tuple #[.agg #[.int .i64 n, .int .u32 u], .bool false]) ?_ rfl ⟨((n : Int), u), false, HR2.out, rfl, ?_⟩
              · simp [results, Tryd.f36, go_sem, *]
              · exact bel_two (bel2 HB.out.2 HB3.out) (Nat.le_refl _) _ _
        · have HP2 : Hid (∀ x ∈ s.data.toList.take (k + 1), x ≠ 46) := by
            unfold Hid
            rw [HTS.out]
            intro x hx
            rcases List.mem_append.1 hx with hx | hx
            · exact HP.out x hx
            · obtain rfl := List.mem_singleton.1 hx
              exact hd
          have hd2 : ((s[k].toNat : Int) == 46) = false := by
            rw [beq_eq_false_iff_ne]
            intro e
            exact hd (UInt8.toNat_inj.1 (by rw [show (46 : UInt8).toNat = 46 from rfl]; omega))
          clear hd
          go_wp2
          go_roundw
          case rel => exact ⟨k + 1, by omega, by go_num, trivial, HP2.out⟩
          case measure => simp [intOf]; omega
      · obtain rfl : k = s.size := by omega
        have HR : Hid (RefRes s.data.toList (0, 0) false) := refres_none HM.out (by
          have := HP.out
          rwa [List.take_of_length_le (by rw [← Lib.size_eq]; exact Nat.le_refl _)] at this)
        obtain ⟨c0, c1⟩ := HB.out.1.rf
        obtain ⟨f0, f1⟩ := HB.out.1.rfz
        simp only at c0 c1
        clear hlt
        go_wp2
        refine bodyPost_ret (v := .tuple #[.agg #[.int .i64 0, .int .u32 0], .bool false]) ?_ rfl ⟨(0, 0), false, HR.out, rfl, ?_⟩
        · simp [results, Tryd.f36, go_sem, *]
        · first | exact bel_two HB.out.2 (Nat.le_refl _) _ _ | exact HB.out.2
end Go.Proofs.YtmbkhkijmfogcaaDoor
