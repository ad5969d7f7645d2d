/- ExpireSets: the time that was set last counts; what is dropped does not expire; the others are as before. -/
import Derived.Test.YtlnjgbdekcgmpaaEx
namespace Go.Proofs.Ytlnjgbdekcgmpaa
open Go.RowKit

/-- What is known of the queue behind the change: the id m has the time at, or is not there; the others have theirs. -/
structure Chg (l : List Int) (n m : Nat) (at_ : Int) (r : Bool) (M : List En) : Prop where
  len : M.length = if r then n - 1 else n
  mem : ∀ e ∈ M, ∃ i : Nat, i < n ∧ e.1 = (i : Int) ∧ (i = m → e.2 = at_ ∧ r = false) ∧ (i ≠ m → l[i]? = some e.2)
  me : tm M m = if r then none else some at_
  oth : ∀ j x, j < n → j ≠ m → l[j]? = some x → tm M (j : Int) = some x
theorem chg_del {l : List Int} {n m : Nat} {at_ : Int} (hl : n = l.length) (hm : m < n) : Chg l n m at_ true (del (fl l n) m) := by
  have hx : ((m : Int), l.getD m 0) ∈ fl l n := mem_fl.2 ⟨m, hm, rfl⟩
  refine ⟨?_, fun e he => ?_, ?_, fun j x hj hjm hx => ?_⟩
  · have := del_length (fl_srt l n) (fl_nod l n) hx
    rw [fl_len] at this
    simp only at this
    simp; omega
  · obtain ⟨h1, h2⟩ := mem_del.1 he
    obtain ⟨i, hi, rfl⟩ := mem_fl.1 h1
    refine ⟨i, hi, rfl, fun e => absurd (by rw [e]) h2, fun _ => ?_⟩
    rw [List.getD_eq_getElem?_getD, List.getElem?_eq_getElem (by omega)]; rfl
  · rw [tm_del (fl_nod l n), if_pos rfl]; rfl
  · rw [tm_del (fl_nod l n), if_neg (by omega), tm_fl hj, List.getD_eq_getElem?_getD, hx]; rfl
theorem chg_set {l : List Int} {n m : Nat} {at_ : Int} (hl : n = l.length) (hm : m < n) : Chg l n m at_ false (set (fl l n) m at_) := by
  have hx : ((m : Int), l.getD m 0) ∈ fl l n := mem_fl.2 ⟨m, hm, rfl⟩
  refine ⟨?_, fun e he => ?_, ?_, fun j x hj hjm hx => ?_⟩
  · have := set_length_old (fl_srt l n) (fl_nod l n) at_ hx
    rw [fl_len] at this
    simpa using this
  · rcases mem_set.1 he with rfl | ⟨h1, h2⟩
    · exact ⟨m, hm, rfl, fun _ => ⟨rfl, rfl⟩, fun h => absurd rfl h⟩
    · obtain ⟨i, hi, rfl⟩ := mem_fl.1 h1
      refine ⟨i, hi, rfl, fun e => absurd (by rw [e]) h2, fun _ => ?_⟩
      rw [List.getD_eq_getElem?_getD, List.getElem?_eq_getElem (by omega)]; rfl
  · rw [tm_set (fl_nod l n), if_pos rfl]; rfl
  · rw [tm_set (fl_nod l n), if_neg (by omega), tm_fl hj, List.getD_eq_getElem?_getD, hx]; rfl
/-- Two that follow one another. -/
theorem chg_next {l : List Int} {n m : Nat} {at_ : Int} {r : Bool} {M : List En} (h : Chg l n m at_ r M) (hs : Srt M) {j : Nat} (hj : j + 1 < M.length) :
    ∃ (i1 i2 : Nat) (t1 t2 : Int), i1 < n ∧ i2 < n ∧ (ids M)[j]? = some (i1 : Int) ∧ (ids M)[j + 1]? = some (i2 : Int) ∧ (t1 < t2 ∨ t1 = t2 ∧ (i1 : Int) < i2) ∧ (i1 = m → t1 = at_ ∧ r = false) ∧ (i1 ≠ m → l[i1]? = some t1) ∧ (i2 = m → t2 = at_ ∧ r = false) ∧ (i2 ≠ m → l[i2]? = some t2) ∧ i1 ≠ i2 := by
  have h1 : M[j]? = some M[j] := List.getElem?_eq_getElem (by omega)
  have h2 : M[j + 1]? = some M[j + 1] := List.getElem?_eq_getElem hj
  have hlt := List.pairwise_iff_getElem.1 hs j (j + 1) (by omega) hj (by omega)
  obtain ⟨i1, a1, a2, a3, a4⟩ := h.mem _ (List.mem_of_getElem? h1)
  obtain ⟨i2, b1, b2, b3, b4⟩ := h.mem _ (List.mem_of_getElem? h2)
  rw [lt_iff, a2, b2] at hlt
  refine ⟨i1, i2, _, _, a1, b1, by unfold ids; rw [List.getElem?_map, h1, ← a2]; rfl, by unfold ids; rw [List.getElem?_map, h2, ← b2]; rfl, hlt, a3, a4, b3, b4, ?_⟩
  rintro rfl
  by_cases e : i1 = m
  · have e1 := (a3 e).1; have e2 := (b3 e).1; omega
  · have e1 := a4 e; rw [b4 e] at e1; have := Option.some.inj e1; omega

set_option maxRecDepth 1000000 in
set_option maxHeartbeats 8000000 in
theorem eSet_drop (a : Option Addr) (n c : Nat) (l : List Int) (k : Nat) (at_ : Int) (w : World) (h : U8 w a n l) (hc : n ≤ c) (hcm : c ≤ 9223372036854775807) (hk : k ≤ 255) (_ha0 : 0 ≤ at_) (_ha1 : at_ ≤ 255) (hn0 : 0 < n) (hn : n ≤ 60) :
    Calls Try.prog 7 #[.slice a n c, .int .u8 (k : Int), .int .u8 at_, .bool true] w fun e w' => e = .returned (.bool true) ∧ Below w.heap.size w w' := by
  have H := Lib.hid h
  obtain ⟨m, hmm⟩ : ∃ m, k % n = m := ⟨_, rfl⟩
  have hm : m < n := by rw [← hmm]; exact Nat.mod_lt _ hn0
  have hmod : (k : Int) % (n : Int) = (m : Int) := by rw [← hmm]; simp
  have htm : (k : Int).tmod (n : Int) = (m : Int) := by rw [Int.tmod_eq_emod_of_nonneg (by omega)]; exact hmod
  have him : I64 (m : Int) := ⟨by omega, by omega⟩
  obtain ⟨L, hL⟩ : ∃ L, fl l n = L := ⟨_, rfl⟩
  have F1 : Hid (∀ W, Below w.heap.size w W → Calls Try.prog 29 #[.slice a n c] W fun e w' => ∃ b, e = .returned (.pointer (some ⟨b, 0, none⟩)) ∧ Own W w' b L) := fun W hB => by have := filled_ok w a n c l W hB (h.below hB) hc hcm hn; rw [hL] at this; exact this
  have hb1 : decide ((60 : Int) < (n : Int)) = false := decide_eq_false (by omega)
  have hb2 : ((n : Int) == 0) = false := beq_eq_false_iff_ne.2 (by omega)
  have hll : L.length = n := by rw [← hL]; exact fl_len _ _
  obtain ⟨M, hM⟩ : ∃ M, del L m = M := ⟨_, rfl⟩
  have hC : Chg l n m at_ true M := by rw [← hM, ← hL]; exact chg_del h.len hm
  have htl : tm L m = some (l.getD m 0) := by rw [← hL]; exact tm_fl hm
  have P1 : Hid (∀ W b, Own w W b L → Calls Try.prog 16 #[.pointer (some ⟨b, 0, none⟩), .int .i64 (m : Int)] W fun e w' => e = .returned (.bool true) ∧ Own w w' b M) := fun W b ho => by
    have := own_drop ho him
    rw [htl, hM] at this
    exact this
  have P2 : Hid (∀ W b, Own w W b M → Calls Try.prog 16 #[.pointer (some ⟨b, 0, none⟩), .int .i64 (m : Int)] W fun e w' => e = .returned (.bool false) ∧ Own w w' b M) := fun W b ho => by
    have := own_drop ho him
    have e0 : tm M m = none := hC.me
    rw [e0, del_none e0] at this
    exact this
  have hml : M.length = n - 1 := by have := hC.len; simpa using this
  have L1 : Hid (∀ W b, Own w W b M → Calls Try.prog 27 #[.pointer (some ⟨b, 0, none⟩)] W fun e w' => e = .returned (.int .i64 ((n : Int) - 1)) ∧ W = w') := fun W b ho => by
    have := own_len ho
    rw [hml, show ((n - 1 : Nat) : Int) = (n : Int) - 1 by omega] at this
    exact this
  clear htl hM hml
  have hmm2 : ((m : Int) == (m : Int)) = true := by simp
  have WH : Hid (∀ W b j x, Own w W b M → j < n → j ≠ m → l[j]? = some x → Calls Try.prog 25 #[.pointer (some ⟨b, 0, none⟩), .int .i64 ((j : Nat) : Int)] W fun e w' => e = .returned (.tuple #[.int .i64 x, .bool true]) ∧ W = w') := fun W b j x ho hj hjm hx => by
    have := own_when ho (i := (j : Int)) ⟨by omega, by omega⟩
    rw [hC.oth j x hj hjm hx] at this
    exact this
  have WM : Hid (∀ W b, Own w W b M → Calls Try.prog 25 #[.pointer (some ⟨b, 0, none⟩), .int .i64 (m : Int)] W fun e w' => e = .returned (.tuple #[.int .i64 0, .bool false]) ∧ W = w') := fun W b ho => by
    have := own_when ho him
    rw [hC.me] at this
    exact this
  obtain ⟨d, hd⟩ : ∃ d, M.length = d := ⟨_, rfl⟩
  have hdn : d = n - 1 := by have := hC.len; rw [hd] at this; simpa using this
  have hd60 : d ≤ 60 := by omega
  have q1 : ((d : Int) != (n : Int)) = true := by simp; omega
  have q2 : ((d : Int) == (n : Int) - 1) = true := by simp; omega
  have q3 : ((d : Int) == (n : Int)) = false := beq_eq_false_iff_ne.2 (by omega)
  clear hdn
  have D1 : Hid (∀ W b, Own w W b M → Calls Try.prog 19 #[.pointer (some ⟨b, 0, none⟩), .int .i64 1099511627776] W fun e w' => ∃ a c', e = .returned (.slice a d c') ∧ d ≤ c' ∧ c' ≤ 9223372036854775807 ∧ Below w.heap.size w w' ∧ Rd w' (.slice a d c') (ids M)) := fun W b ho => by
    have := own_due ho 1099511627776
    rw [due_all (fun e he => (ho.rg e he).2), hd] at this
    exact this.mono fun e w' ⟨a, c', h1, h2, h3, h4, h5⟩ => ⟨a, c', h1, h2, h3, h4.bel, h5⟩
  have HM2 : Hid (∀ W b, Own w W b M → Srt M) := fun W b ho => ho.srt
  have HC := Lib.hid hC
  have HD := Lib.hid hd
  have hidl : Hid ((ids M).length = d) := by unfold Hid; rw [ids_length]; exact hd
  clear h hL hll hd hC him hmm
  go_enter Try.func7, Try.ntmps7
  go_wp2_with (first
    | (go_at_call 29; (with_reducible refine (F1.out _ (Below.refl _ _)).mono ?_); rintro e w1 ⟨b, rfl, ho⟩; have HO := Lib.hid ho; clear ho)
    | (go_at_call 16; (with_reducible refine (P1.out _ _ HO.out).mono ?_); rintro e w2 ⟨rfl, ho⟩; have HO := Lib.hid ho; clear ho)
    | (go_at_call 16; (with_reducible refine (P2.out _ _ HO.out).mono ?_); rintro e w3 ⟨rfl, ho⟩; have HO := Lib.hid ho; clear ho)
    | (go_at_call 27; (with_reducible refine (L1.out _ _ HO.out).mono ?_); rintro e w4 ⟨rfl, rfl⟩))
  go_loopw [11] (fun s wr => ∃ j : Nat, j ≤ n ∧ s = .int .i64 j ∧ Hid (Own w wr b M)) (fun s _ => n - (intOf s).toNat)
  case atStart => exact ⟨0, by omega, rfl, HO.out⟩
  case round =>
    obtain ⟨j, hj, rfl, HO2⟩ := hrel
    by_cases hlt : j < n
    · by_cases hjm : j = m
      · subst hjm
        go_wp2_with (go_at_call 25; (with_reducible refine (WM.out _ _ HO2.out).mono ?_); rintro e w5 ⟨rfl, rfl⟩)
        go_roundw
        case rel => exact ⟨j + 1, by omega, by go_num, HO2.out⟩
        case measure => simp [intOf]; omega
      · obtain ⟨g, off, x, rfl, hg, hcell, hx, hx0, hx1⟩ := (H.out.below HO2.out.bel).cell hlt
        have HX := Lib.hid hx
        have hne : ((j : Int) == (m : Int)) = false := beq_eq_false_iff_ne.2 (by omega)
        have hxx : (x != x) = false := by simp
        clear hx
        go_wp2_with (go_at_call 25; (with_reducible refine (WH.out _ _ j x HO2.out hlt hjm HX.out).mono ?_); rintro e w5 ⟨rfl, rfl⟩)
        go_roundw
        case rel => exact ⟨j + 1, by omega, by go_num, HO2.out⟩
        case measure => simp [intOf]; omega
    · obtain rfl : j = n := by omega
      have HS := Lib.hid (HM2.out _ _ HO2.out)
      clear HO WH WM F1
      go_wp2_with (go_at_call 19; (with_reducible refine (D1.out _ _ HO2.out).mono ?_); rintro e w6 ⟨a6, c6, rfl, hp1, hp2, hb6, hrd⟩; have HB6 := Lib.hid hb6; have HR6 := Lib.hid hrd; clear hb6 hrd)
      clear HO2 D1
      go_loopw [15] (fun s wr => ∃ q : Nat, q ≤ d ∧ s = .int .i64 ((q : Int) + 1) ∧ Hid (∃ z, wr = w6.drewN z)) (fun s _ => d + 1 - (intOf s).toNat)
      case atStart => exact ⟨0, by omega, rfl, ⟨0, rfl⟩⟩
      case round =>
        obtain ⟨q, hq, rfl, HQ⟩ := hrel
        have HRr : Hid (Rd wr (.slice a6 d c6) (ids M) ∧ Below w.heap.size w wr) := by
          obtain ⟨z, rfl⟩ := HQ.out
          exact ⟨HR6.out, bel_drewN HB6.out z⟩
        by_cases hlt : q + 1 < d
        · obtain ⟨i1, i2, t1, t2, hi1, hi2, hd1, hd2, hord, g1, g2, g3, g4, hi12⟩ := chg_next HC.out HS.out (j := q) (by rw [HD.out]; exact hlt)
          obtain ⟨gd, od, rfl, hgd, hcd1⟩ : ∃ g off, a6 = some ⟨g, off, none⟩ ∧ g < wr.heap.size ∧ wr.cell? ⟨g, off + q, none⟩ = some (.int .i64 (i1 : Int)) := by
            have := HRr.out.1
            rw [← hidl.out] at this
            obtain ⟨g, off, e1, e2, e3⟩ := this.cell (j := q) (by rw [hidl.out]; omega)
            refine ⟨g, off, e1, e2, ?_⟩
            rw [e3, ← Option.some.inj ((List.getElem?_eq_getElem (by rw [hidl.out]; omega)).symm.trans hd1)]
          have hcd2 : wr.cell? ⟨gd, od + (q + 1), none⟩ = some (.int .i64 (i2 : Int)) := by
            have := HRr.out.1
            rw [← hidl.out] at this
            obtain ⟨g, off, e1, e2, e3⟩ := this.cell (j := q + 1) (by rw [hidl.out]; omega)
            injection e1 with e1
            injection e1 with e1 e4
            subst e1 e4
            rw [e3, ← Option.some.inj ((List.getElem?_eq_getElem (by rw [hidl.out]; omega)).symm.trans hd2)]
          have hU := H.out.below HRr.out.2
          obtain ⟨g, off, x1, rfl, hg, hc1, hx1, hx10, hx11⟩ := hU.cell hi1
          obtain ⟨g', off', x2, eg, hg', hc2, hx2, hx20, hx21⟩ := hU.cell hi2
          injection eg with eg
          injection eg with eg1 eg2
          subst eg1 eg2
          have m1 : (i1 : Int) % (j : Int) = (i1 : Int) := Int.emod_eq_of_lt (by omega) (by omega)
          have m2 : (i2 : Int) % (j : Int) = (i2 : Int) := Int.emod_eq_of_lt (by omega) (by omega)
          have n1 : (i1 : Int).tmod (j : Int) = (i1 : Int) := by rw [Int.tmod_eq_emod_of_nonneg (by omega)]; exact m1
          have n2 : (i2 : Int).tmod (j : Int) = (i2 : Int) := by rw [Int.tmod_eq_emod_of_nonneg (by omega)]; exact m2
          clear hU hd1 hd2
          have hcases : ((i1 = m ∧ i2 ≠ m) ∨ (i1 ≠ m ∧ i2 = m) ∨ (i1 ≠ m ∧ i2 ≠ m)) := by omega
          rcases hcases with ⟨e1, e2⟩ | ⟨e1, e2⟩ | ⟨e1, e2⟩
          · exact absurd (g1 e1).2 (by decide)
          · exact absurd (g3 e2).2 (by decide)
          · obtain rfl : x1 = t1 := by have := g2 e1; rw [hx1] at this; exact Option.some.inj this
            obtain rfl : x2 = t2 := by have := g4 e2; rw [hx2] at this; exact Option.some.inj this
            have f1 : ((i1 : Int) == (m : Int)) = false := beq_eq_false_iff_ne.2 (by omega)
            have f2 : ((i2 : Int) == (m : Int)) = false := beq_eq_false_iff_ne.2 (by omega)
            clear g1 g2 g3 g4 hx1 hx2
            rcases hord with ho | ⟨ho, ho2⟩
            · have o1 : decide (x2 < x1) = false := decide_eq_false (by omega)
              have o2 : (x1 == x2) = false := beq_eq_false_iff_ne.2 (by omega)
              go_wp2_with fail
              go_quiet (fail)
              all_goals
                go_wp2_with fail
                go_quiet (fail)
                all_goals
                  go_wp2
              go_roundw
              case rel => exact ⟨q + 1, by omega, by go_num, by obtain ⟨z, hz⟩ := HQ.out; exact ⟨_, by rw [hz]; exact World.drewN_drewN _ _ _⟩⟩
              case measure => simp [intOf]; omega
            · have o1 : decide (x2 < x1) = false := decide_eq_false (by omega)
              have o2 : (x1 == x2) = true := beq_iff_eq.2 ho
              have o3 : decide ((i2 : Int) ≤ (i1 : Int)) = false := decide_eq_false (by omega)
              have HOO := Lib.hid ho
              clear ho
              go_wp2_with fail
              go_quiet (fail)
              all_goals
                go_wp2_with fail
                go_quiet (fail)
                all_goals
                  go_wp2
              go_roundw
              case rel => exact ⟨q + 1, by omega, by go_num, by obtain ⟨z, hz⟩ := HQ.out; exact ⟨_, by rw [hz]; exact World.drewN_drewN _ _ _⟩⟩
              case measure => simp [intOf]; omega
        · have HRb := Lib.hid HRr.out.2
          clear HRr
          go_wp2_with (go_at_call 11; refine (works_ok _).mono ?_; rintro e w10 ⟨rfl, hb⟩; have HW := Lib.hid (HRb.out.trans (hb.mono HRb.out.size)); clear hb)
          go_ret
          exact ⟨rfl, HW.out⟩

set_option maxRecDepth 1000000 in
set_option maxHeartbeats 8000000 in
theorem eSet_set (a : Option Addr) (n c : Nat) (l : List Int) (k : Nat) (at_ : Int) (w : World) (h : U8 w a n l) (hc : n ≤ c) (hcm : c ≤ 9223372036854775807) (hk : k ≤ 255) (ha0 : 0 ≤ at_) (ha1 : at_ ≤ 255) (hn0 : 0 < n) (hn : n ≤ 60) :
    Calls Try.prog 7 #[.slice a n c, .int .u8 (k : Int), .int .u8 at_, .bool false] w fun e w' => e = .returned (.bool true) ∧ Below w.heap.size w w' := by
  have H := Lib.hid h
  obtain ⟨m, hmm⟩ : ∃ m, k % n = m := ⟨_, rfl⟩
  have hm : m < n := by rw [← hmm]; exact Nat.mod_lt _ hn0
  have hmod : (k : Int) % (n : Int) = (m : Int) := by rw [← hmm]; simp
  have htm : (k : Int).tmod (n : Int) = (m : Int) := by rw [Int.tmod_eq_emod_of_nonneg (by omega)]; exact hmod
  have him : I64 (m : Int) := ⟨by omega, by omega⟩
  obtain ⟨L, hL⟩ : ∃ L, fl l n = L := ⟨_, rfl⟩
  have F1 : Hid (∀ W, Below w.heap.size w W → Calls Try.prog 29 #[.slice a n c] W fun e w' => ∃ b, e = .returned (.pointer (some ⟨b, 0, none⟩)) ∧ Own W w' b L) := fun W hB => by have := filled_ok w a n c l W hB (h.below hB) hc hcm hn; rw [hL] at this; exact this
  have hb1 : decide ((60 : Int) < (n : Int)) = false := decide_eq_false (by omega)
  have hb2 : ((n : Int) == 0) = false := beq_eq_false_iff_ne.2 (by omega)
  have hll : L.length = n := by rw [← hL]; exact fl_len _ _
  obtain ⟨M, hM⟩ : ∃ M, set L m at_ = M := ⟨_, rfl⟩
  have hC : Chg l n m at_ false M := by rw [← hM, ← hL]; exact chg_set h.len hm
  have P1 : Hid (∀ W b, Own w W b L → Calls Try.prog 14 #[.pointer (some ⟨b, 0, none⟩), .int .i64 (m : Int), .int .i64 at_] W fun e w' => e = .returned (.int .i64 0) ∧ Own w w' b M) := fun W b ho => by
    have := own_set ho him at_
    rw [setE_ok ha0 (by omega) (by omega), setL_ok ha0 (by omega) (by omega), hM] at this
    exact this
  have hml : M.length = n := by have := hC.len; simpa using this
  have L1 : Hid (∀ W b, Own w W b M → Calls Try.prog 27 #[.pointer (some ⟨b, 0, none⟩)] W fun e w' => e = .returned (.int .i64 (n : Int)) ∧ W = w') := fun W b ho => by
    have := own_len ho
    rw [hml] at this
    exact this
  have haa : (at_ != at_) = false := by simp
  clear hM hml
  have hmm2 : ((m : Int) == (m : Int)) = true := by simp
  have WH : Hid (∀ W b j x, Own w W b M → j < n → j ≠ m → l[j]? = some x → Calls Try.prog 25 #[.pointer (some ⟨b, 0, none⟩), .int .i64 ((j : Nat) : Int)] W fun e w' => e = .returned (.tuple #[.int .i64 x, .bool true]) ∧ W = w') := fun W b j x ho hj hjm hx => by
    have := own_when ho (i := (j : Int)) ⟨by omega, by omega⟩
    rw [hC.oth j x hj hjm hx] at this
    exact this
  have WM : Hid (∀ W b, Own w W b M → Calls Try.prog 25 #[.pointer (some ⟨b, 0, none⟩), .int .i64 (m : Int)] W fun e w' => e = .returned (.tuple #[.int .i64 at_, .bool true]) ∧ W = w') := fun W b ho => by
    have := own_when ho him
    rw [hC.me] at this
    exact this
  obtain ⟨d, hd⟩ : ∃ d, M.length = d := ⟨_, rfl⟩
  have hdn : d = n := by have := hC.len; rw [hd] at this; simpa using this
  have hd60 : d ≤ 60 := by omega
  have q1 : ((d : Int) != (n : Int)) = false := by simp; omega
  clear hdn
  have D1 : Hid (∀ W b, Own w W b M → Calls Try.prog 19 #[.pointer (some ⟨b, 0, none⟩), .int .i64 1099511627776] W fun e w' => ∃ a c', e = .returned (.slice a d c') ∧ d ≤ c' ∧ c' ≤ 9223372036854775807 ∧ Below w.heap.size w w' ∧ Rd w' (.slice a d c') (ids M)) := fun W b ho => by
    have := own_due ho 1099511627776
    rw [due_all (fun e he => (ho.rg e he).2), hd] at this
    exact this.mono fun e w' ⟨a, c', h1, h2, h3, h4, h5⟩ => ⟨a, c', h1, h2, h3, h4.bel, h5⟩
  have HM2 : Hid (∀ W b, Own w W b M → Srt M) := fun W b ho => ho.srt
  have HC := Lib.hid hC
  have HD := Lib.hid hd
  have hidl : Hid ((ids M).length = d) := by unfold Hid; rw [ids_length]; exact hd
  clear h hL hll hd hC him hmm
  go_enter Try.func7, Try.ntmps7
  go_wp2_with (first
    | (go_at_call 29; (with_reducible refine (F1.out _ (Below.refl _ _)).mono ?_); rintro e w1 ⟨b, rfl, ho⟩; have HO := Lib.hid ho; clear ho)
    | (go_at_call 14; (with_reducible refine (P1.out _ _ HO.out).mono ?_); rintro e w2 ⟨rfl, ho⟩; have HO := Lib.hid ho; clear ho)
    | (go_at_call 27; (with_reducible refine (L1.out _ _ HO.out).mono ?_); rintro e w4 ⟨rfl, rfl⟩))
  go_loopw [11] (fun s wr => ∃ j : Nat, j ≤ n ∧ s = .int .i64 j ∧ Hid (Own w wr b M)) (fun s _ => n - (intOf s).toNat)
  case atStart => exact ⟨0, by omega, rfl, HO.out⟩
  case round =>
    obtain ⟨j, hj, rfl, HO2⟩ := hrel
    by_cases hlt : j < n
    · by_cases hjm : j = m
      · subst hjm
        go_wp2_with (go_at_call 25; (with_reducible refine (WM.out _ _ HO2.out).mono ?_); rintro e w5 ⟨rfl, rfl⟩)
        go_roundw
        case rel => exact ⟨j + 1, by omega, by go_num, HO2.out⟩
        case measure => simp [intOf]; omega
      · obtain ⟨g, off, x, rfl, hg, hcell, hx, hx0, hx1⟩ := (H.out.below HO2.out.bel).cell hlt
        have HX := Lib.hid hx
        have hne : ((j : Int) == (m : Int)) = false := beq_eq_false_iff_ne.2 (by omega)
        have hxx : (x != x) = false := by simp
        clear hx
        go_wp2_with (go_at_call 25; (with_reducible refine (WH.out _ _ j x HO2.out hlt hjm HX.out).mono ?_); rintro e w5 ⟨rfl, rfl⟩)
        go_roundw
        case rel => exact ⟨j + 1, by omega, by go_num, HO2.out⟩
        case measure => simp [intOf]; omega
    · obtain rfl : j = n := by omega
      have HS := Lib.hid (HM2.out _ _ HO2.out)
      clear HO WH WM F1
      go_wp2_with (go_at_call 19; (with_reducible refine (D1.out _ _ HO2.out).mono ?_); rintro e w6 ⟨a6, c6, rfl, hp1, hp2, hb6, hrd⟩; have HB6 := Lib.hid hb6; have HR6 := Lib.hid hrd; clear hb6 hrd)
      clear HO2 D1
      go_loopw [15] (fun s wr => ∃ q : Nat, q ≤ d ∧ s = .int .i64 ((q : Int) + 1) ∧ Hid (∃ z, wr = w6.drewN z)) (fun s _ => d + 1 - (intOf s).toNat)
      case atStart => exact ⟨0, by omega, rfl, ⟨0, rfl⟩⟩
      case round =>
        obtain ⟨q, hq, rfl, HQ⟩ := hrel
        have HRr : Hid (Rd wr (.slice a6 d c6) (ids M) ∧ Below w.heap.size w wr) := by
          obtain ⟨z, rfl⟩ := HQ.out
          exact ⟨HR6.out, bel_drewN HB6.out z⟩
        by_cases hlt : q + 1 < d
        · obtain ⟨i1, i2, t1, t2, hi1, hi2, hd1, hd2, hord, g1, g2, g3, g4, hi12⟩ := chg_next HC.out HS.out (j := q) (by rw [HD.out]; exact hlt)
          obtain ⟨gd, od, rfl, hgd, hcd1⟩ : ∃ g off, a6 = some ⟨g, off, none⟩ ∧ g < wr.heap.size ∧ wr.cell? ⟨g, off + q, none⟩ = some (.int .i64 (i1 : Int)) := by
            have := HRr.out.1
            rw [← hidl.out] at this
            obtain ⟨g, off, e1, e2, e3⟩ := this.cell (j := q) (by rw [hidl.out]; omega)
            refine ⟨g, off, e1, e2, ?_⟩
            rw [e3, ← Option.some.inj ((List.getElem?_eq_getElem (by rw [hidl.out]; omega)).symm.trans hd1)]
          have hcd2 : wr.cell? ⟨gd, od + (q + 1), none⟩ = some (.int .i64 (i2 : Int)) := by
            have := HRr.out.1
            rw [← hidl.out] at this
            obtain ⟨g, off, e1, e2, e3⟩ := this.cell (j := q + 1) (by rw [hidl.out]; omega)
            injection e1 with e1
            injection e1 with e1 e4
            subst e1 e4
            rw [e3, ← Option.some.inj ((List.getElem?_eq_getElem (by rw [hidl.out]; omega)).symm.trans hd2)]
          have hU := H.out.below HRr.out.2
          obtain ⟨g, off, x1, rfl, hg, hc1, hx1, hx10, hx11⟩ := hU.cell hi1
          obtain ⟨g', off', x2, eg, hg', hc2, hx2, hx20, hx21⟩ := hU.cell hi2
          injection eg with eg
          injection eg with eg1 eg2
          subst eg1 eg2
          have m1 : (i1 : Int) % (j : Int) = (i1 : Int) := Int.emod_eq_of_lt (by omega) (by omega)
          have m2 : (i2 : Int) % (j : Int) = (i2 : Int) := Int.emod_eq_of_lt (by omega) (by omega)
          have n1 : (i1 : Int).tmod (j : Int) = (i1 : Int) := by rw [Int.tmod_eq_emod_of_nonneg (by omega)]; exact m1
          have n2 : (i2 : Int).tmod (j : Int) = (i2 : Int) := by rw [Int.tmod_eq_emod_of_nonneg (by omega)]; exact m2
          clear hU hd1 hd2
          have hcases : ((i1 = m ∧ i2 ≠ m) ∨ (i1 ≠ m ∧ i2 = m) ∨ (i1 ≠ m ∧ i2 ≠ m)) := by omega
          rcases hcases with ⟨e1, e2⟩ | ⟨e1, e2⟩ | ⟨e1, e2⟩
          · obtain ⟨rfl, hrf⟩ := g1 e1
            obtain rfl : x2 = t2 := by have := g4 e2; rw [hx2] at this; exact Option.some.inj this
            subst e1
            have f1 : ((i1 : Int) == (i1 : Int)) = true := by simp
            have f2 : ((i2 : Int) == (i1 : Int)) = false := beq_eq_false_iff_ne.2 (by omega)
            clear g1 g2 g3 g4 hx1 hx2
            rcases hord with ho | ⟨ho, ho2⟩
            · have o1 : decide (x2 < t1) = false := decide_eq_false (by omega)
              have o2 : (t1 == x2) = false := beq_eq_false_iff_ne.2 (by omega)
              go_wp2_with fail
              go_quiet (fail)
              all_goals
                go_wp2_with fail
                go_quiet (fail)
                all_goals
                  go_wp2
              go_roundw
              case rel => exact ⟨q + 1, by omega, by go_num, by obtain ⟨z, hz⟩ := HQ.out; exact ⟨_, by rw [hz]; exact World.drewN_drewN _ _ _⟩⟩
              case measure => simp [intOf]; omega
            · have o1 : decide (x2 < t1) = false := decide_eq_false (by omega)
              have o2 : (t1 == x2) = true := beq_iff_eq.2 ho
              have o3 : decide ((i2 : Int) ≤ (i1 : Int)) = false := decide_eq_false (by omega)
              have HOO := Lib.hid ho
              clear ho
              go_wp2_with fail
              go_quiet (fail)
              all_goals
                go_wp2_with fail
                go_quiet (fail)
                all_goals
                  go_wp2
              go_roundw
              case rel => exact ⟨q + 1, by omega, by go_num, by obtain ⟨z, hz⟩ := HQ.out; exact ⟨_, by rw [hz]; exact World.drewN_drewN _ _ _⟩⟩
              case measure => simp [intOf]; omega
          · obtain ⟨rfl, hrf⟩ := g3 e2
            obtain rfl : x1 = t1 := by have := g2 e1; rw [hx1] at this; exact Option.some.inj this
            subst e2
            have f1 : ((i1 : Int) == (i2 : Int)) = false := beq_eq_false_iff_ne.2 (by omega)
            have f2 : ((i2 : Int) == (i2 : Int)) = true := by simp
            clear g1 g2 g3 g4 hx1 hx2
            rcases hord with ho | ⟨ho, ho2⟩
            · have o1 : decide (t2 < x1) = false := decide_eq_false (by omega)
              have o2 : (x1 == t2) = false := beq_eq_false_iff_ne.2 (by omega)
              go_wp2_with fail
              go_quiet (fail)
              all_goals
                go_wp2_with fail
                go_quiet (fail)
                all_goals
                  go_wp2
              go_roundw
              case rel => exact ⟨q + 1, by omega, by go_num, by obtain ⟨z, hz⟩ := HQ.out; exact ⟨_, by rw [hz]; exact World.drewN_drewN _ _ _⟩⟩
              case measure => simp [intOf]; omega
            · have o1 : decide (t2 < x1) = false := decide_eq_false (by omega)
              have o2 : (x1 == t2) = true := beq_iff_eq.2 ho
              have o3 : decide ((i2 : Int) ≤ (i1 : Int)) = false := decide_eq_false (by omega)
              have HOO := Lib.hid ho
              clear ho
              go_wp2_with fail
              go_quiet (fail)
              all_goals
                go_wp2_with fail
                go_quiet (fail)
                all_goals
                  go_wp2
              go_roundw
              case rel => exact ⟨q + 1, by omega, by go_num, by obtain ⟨z, hz⟩ := HQ.out; exact ⟨_, by rw [hz]; exact World.drewN_drewN _ _ _⟩⟩
              case measure => simp [intOf]; omega
          · obtain rfl : x1 = t1 := by have := g2 e1; rw [hx1] at this; exact Option.some.inj this
            obtain rfl : x2 = t2 := by have := g4 e2; rw [hx2] at this; exact Option.some.inj this
            have f1 : ((i1 : Int) == (m : Int)) = false := beq_eq_false_iff_ne.2 (by omega)
            have f2 : ((i2 : Int) == (m : Int)) = false := beq_eq_false_iff_ne.2 (by omega)
            clear g1 g2 g3 g4 hx1 hx2
            rcases hord with ho | ⟨ho, ho2⟩
            · have o1 : decide (x2 < x1) = false := decide_eq_false (by omega)
              have o2 : (x1 == x2) = false := beq_eq_false_iff_ne.2 (by omega)
              go_wp2_with fail
              go_quiet (fail)
              all_goals
                go_wp2_with fail
                go_quiet (fail)
                all_goals
                  go_wp2
              go_roundw
              case rel => exact ⟨q + 1, by omega, by go_num, by obtain ⟨z, hz⟩ := HQ.out; exact ⟨_, by rw [hz]; exact World.drewN_drewN _ _ _⟩⟩
              case measure => simp [intOf]; omega
            · have o1 : decide (x2 < x1) = false := decide_eq_false (by omega)
              have o2 : (x1 == x2) = true := beq_iff_eq.2 ho
              have o3 : decide ((i2 : Int) ≤ (i1 : Int)) = false := decide_eq_false (by omega)
              have HOO := Lib.hid ho
              clear ho
              go_wp2_with fail
              go_quiet (fail)
              all_goals
                go_wp2_with fail
                go_quiet (fail)
                all_goals
                  go_wp2
              go_roundw
              case rel => exact ⟨q + 1, by omega, by go_num, by obtain ⟨z, hz⟩ := HQ.out; exact ⟨_, by rw [hz]; exact World.drewN_drewN _ _ _⟩⟩
              case measure => simp [intOf]; omega
        · have HRb := Lib.hid HRr.out.2
          clear HRr
          go_wp2_with (go_at_call 11; refine (works_ok _).mono ?_; rintro e w10 ⟨rfl, hb⟩; have HW := Lib.hid (HRb.out.trans (hb.mono HRb.out.size)); clear hb)
          go_ret
          exact ⟨rfl, HW.out⟩

set_option maxRecDepth 1000000 in
theorem eSet_walk (a : Option Addr) (n c : Nat) (l : List Int) (x y : Int) (r : Bool) (w : World) (h : U8 w a n l) (hc : n ≤ c) (hcm : c ≤ 9223372036854775807) (hx0 : 0 ≤ x) (hx1 : x ≤ 255) (hy0 : 0 ≤ y) (hy1 : y ≤ 255) :
    Calls Try.prog 7 #[.slice a n c, .int .u8 x, .int .u8 y, .bool r] w fun e w' => e = .returned (.bool true) ∧ Below w.heap.size w w' := by
  obtain ⟨k, rfl⟩ : ∃ k : Nat, x = (k : Int) := ⟨x.toNat, by omega⟩
  by_cases hn : 0 < n ∧ n ≤ 60
  · cases r with
    | true => exact eSet_drop a n c l k y w h hc hcm (by omega) hy0 hy1 hn.1 hn.2
    | false => exact eSet_set a n c l k y w h hc hcm (by omega) hy0 hy1 hn.1 hn.2
  · clear h
    have hn' : 60 < n ∨ n = 0 := by omega
    rcases hn' with h | h
    · clear hn
      have hb1 : decide ((60 : Int) < (n : Int)) = true := decide_eq_true (by omega)
      have hb2 : ((n : Int) == 0) = false := beq_eq_false_iff_ne.2 (by omega)
      go_enter Try.func7, Try.ntmps7
      go_wp2_with (go_at_call 11; refine (works_ok _).mono ?_; rintro e w2 ⟨rfl, hb⟩; have HW := Lib.hid hb; clear hb)
      go_ret
      exact ⟨rfl, HW.out⟩
    · clear hn
      subst h
      go_enter Try.func7, Try.ntmps7
      go_wp2_with (go_at_call 11; refine (works_ok _).mono ?_; rintro e w2 ⟨rfl, hb⟩; have HW := Lib.hid hb; clear hb)
      go_ret
      exact ⟨rfl, HW.out⟩
end Go.Proofs.Ytlnjgbdekcgmpaa
