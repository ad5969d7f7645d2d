/- The walk of the statement BitsNext: it returns true for all sizes, lists and places. -/
import Derived.Test.YtaenemdclmnnaaaDoorBy
namespace Go.Proofs.YtaenemdclmnnaaaDoor
open Go.RowKit

theorem from_split {f : Nat → Bool} {n : Nat} {fr : Int} {x : Nat} {l : List Nat} (h : from_ f n fr = x :: l) : from_ f n ((x : Int) + 1) = l ∧ fr ≤ (x : Int) ∧ x < n := by
  have hmem : x ∈ from_ f n fr := by rw [h]; simp
  have hx : x ∈ lst f n ∧ fr ≤ (x : Int) := by
    unfold from_ at hmem
    have := List.mem_filter.1 hmem
    exact ⟨this.1, by simpa using this.2⟩
  have hsorted : (from_ f n fr).Pairwise (· < ·) := by
    unfold from_ lst
    exact (List.pairwise_lt_range.filter _).filter _
  rw [h] at hsorted
  have hgt := (List.pairwise_cons.1 hsorted).1
  refine ⟨?_, hx.2, (lst_mem.1 hx.1).1⟩
  have e : from_ f n ((x : Int) + 1) = (from_ f n fr).filter fun k : Nat => decide ((x : Int) + 1 ≤ (k : Int)) := by
    unfold from_
    rw [List.filter_filter]
    apply List.filter_congr
    intro a _
    by_cases ha : (x : Int) + 1 ≤ (a : Int)
    · have : fr ≤ (a : Int) := by omega
      simp [ha, this]
    · simp [ha]
  rw [e, h, List.filter_cons, if_neg (by simp; omega)]
  rw [List.filter_eq_self]
  intro a ha
  have := hgt a ha
  simp; omega
theorem next_no (b g m : Nat) (f : Nat → Bool) (fr : Int) (hfr : fr ≤ 9223372036854775807) (w : World) (h : SetW w b g m f) (hT : Tab w) (hl : from_ f m fr = []) : Calls Tryd.prog 26 #[.pointer (some ⟨b, 0, none⟩), .int .i64 fr] w fun e w' => e = .returned (.tuple #[.int .i64 0, .bool false]) ∧ Below w.heap.size w w' := by
  refine (next_ok b g m f fr hfr w h hT).mono ?_
  rintro e w' ⟨h1, h2⟩
  rw [hl] at h1
  exact ⟨h1, h2⟩

structure NSt (w0 w : World) (b g h n : Nat) (F : Nat → Bool) : Prop where
  s : SetW w b g n F
  l : Bl w h n F
  t : Tab w
  bel : Below w0.heap.size w0 w
theorem NSt.quiet {w0 w w' : World} {b g h n : Nat} {F : Nat → Bool} (a : NSt w0 w b g h n F) (k : Below w.heap.size w w') : NSt w0 w' b g h n F :=
  ⟨a.s.below k, a.l.below k, a.t.below k, a.bel.trans (k.mono a.bel.size)⟩

theorem from_len (f : Nat → Bool) (n : Nat) (fr : Int) : (from_ f n fr).length ≤ n := by
  have h1 := List.length_filter_le (fun (k : Nat) => decide (fr ≤ (k : Int))) (lst f n)
  have h2 := lst_len f n
  unfold from_; omega
theorem own_below {w w' : World} {base : Nat} {e : TypeId} {sz n : Nat} {v : Value} {xs : List Value} (h : w.ownsRow base e sz v n xs) (k : Below w.heap.size w w') : w'.ownsRow base e sz v n xs := by
  refine ⟨h.1, ?_⟩
  rcases h.2 with h | ⟨g, cap, cur, h1, h2, h3, h4⟩
  · exact .inl h
  · exact .inr ⟨g, cap, cur, h1, h2, (k.block g (Array.getElem?_eq_some_iff.1 h3).1).trans h3, h4⟩
def NRel (w1 : World) (n : Nat) (F : Nat → Bool) (fr : Int) (at_ v i : Value) (wr : World) : Prop :=
  ∃ (k : Nat) (p : Int) (pre : List Nat), i = .int .i64 k ∧ at_ = .int .i64 p ∧ p ≤ 9223372036854775807 ∧ Hid (pre ++ from_ F n p = from_ F n fr) ∧ k ≤ pre.length ∧ Hid (wr.ownsRow w1.heap.size 3 1 v pre.length (ints pre)) ∧ Hid (Below w1.heap.size w1 wr)
/-- The numbers among the first k of l that are not below fr. -/
def cutF (l : List Nat) (fr : Int) (k : Nat) : List Nat := (l.take k).filter fun (x : Nat) => decide (fr ≤ (x : Int))
theorem cutF_all (F : Nat → Bool) (n : Nat) (fr : Int) : cutF (lst F n) fr (lst F n).length = from_ F n fr := by
  unfold cutF from_; rw [List.take_length]
theorem cutF_snoc (l : List Nat) (fr : Int) (k : Nat) (h : k < l.length) : cutF l fr (k + 1) = cutF l fr k ++ if fr ≤ ((l[k] : Nat) : Int) then [l[k]] else [] := by
  unfold cutF
  rw [List.take_succ_eq_append_getElem h, List.filter_append]
  congr 1
  by_cases hx : fr ≤ ((l[k] : Nat) : Int) <;> simp [hx]
theorem cutF_len (l : List Nat) (fr : Int) (k : Nat) : (cutF l fr k).length ≤ k := by
  have h1 := List.length_filter_le (fun (x : Nat) => decide (fr ≤ (x : Int))) (l.take k)
  have h2 := List.length_take_le k l
  unfold cutF; omega

set_option maxRecDepth 100000 in
set_option maxHeartbeats 8000000 in
theorem next_walk (sz : Int) (a : Option Addr) (len cap : Nat) (c : Nat → Nat) (fr : Int) (w : World) (hs0 : 0 ≤ sz) (hs1 : sz ≤ 65535) (hu : U16s w a len cap c) (_h0 : -9223372036854775808 ≤ fr) (h1 : fr ≤ 9223372036854775807) (hT : Tab w) :
    Calls Tryd.prog 7 #[.int .u16 sz, .slice a len cap, .int .i64 fr] w fun e w' => e = .returned (.bool true) ∧ Below w.heap.size w w' := by
  obtain ⟨i0, hi, hz0, hz1, hz2⟩ := info_parts info_int
  obtain ⟨n, hn⟩ : ∃ n : Nat, 1 + sz % 4096 = (n : Int) := ⟨(1 + sz % 4096).toNat, by omega⟩
  have hn2 : 1 + sz.tmod 4096 = (n : Int) := by rw [Int.tmod_eq_emod_of_nonneg hs0]; exact hn
  have hn1 : 1 ≤ n := by omega
  have hn3 : n ≤ 4096 := by omega
  have HMADE := Lib.hid (made_ok n a len cap c w hn1 hn3 hu)
  have HT := Lib.hid hT
  clear hT hu
  go_enter Tryd.func7, Tryd.ntmps7
  go_wp2_with fail
  refine HMADE.out.mono ?_
  rintro e w1 ⟨b, g, h, p1, p2, p3, p4, rfl, hs, hl, hb⟩
  have ST : Hid (NSt w w1 b g h n (acc c n (min len 100))) := ⟨hs, hl, HT.out.below hb, hb⟩
  clear hs hl hb p1 p2 p3 p4 HMADE
  generalize acc c n (min len 100) = F at *
  clear hn hn2
  go_wp2
  go_loopw [11, 12, 34] (fun at_ v i wr => NRel w1 n F fr at_ v i wr) (fun _ _ i _ => n + 1 - (intOf i).toNat)
  case atStart => exact ⟨0, fr, [], rfl, rfl, h1, by unfold Hid; simp, Nat.zero_le _, World.ownsRow_nil _ _ _ _, Below.refl _ _⟩
  case round =>
    obtain ⟨k, p, pre, rfl, rfl, hp, HP, hk, HO, HB⟩ := hrel
    have hpl : pre.length ≤ n := by
      have h2 := congrArg List.length HP.out
      rw [List.length_append] at h2
      have h3 := from_len F n fr
      omega
    have hlt : k < n + 1 := by omega
    have ST2 := Lib.hid (ST.out.quiet HB.out)
    have hsz1 := HB.out.size
    cases hfl : from_ F n p with
    | cons x l =>
      obtain ⟨h2, h3, h4⟩ := from_split hfl
      have HPN : Hid ((pre ++ [x]) ++ from_ F n ((x : Int) + 1) = from_ F n fr) := by
        unfold Hid; rw [h2, ← HP.out, hfl]; simp
      have HNX := Lib.hid (next_s b g n F p x l hp _ ST2.out.s ST2.out.t hfl)
      clear hfl h2
      go_wp2_with fail
      refine HNX.out.mono ?_
      rintro e w2 ⟨rfl, hb2⟩
      have HB2 := Lib.hid (HB.out.trans (hb2.mono hsz1))
      have hown := own_below HO.out hb2
      have hsz2 := HB2.out.size
      clear hb2 HNX HP
      go_wp2_with (at_builtin; refine wpList_append_own _ rfl _ _ 48 rfl w1.heap.size 3 i0 (.int .i64 0) 1 8 Tryd.underlying48 hi hz0 hz1 hz2 rfl (by decide) _ _ _ rfl (hown.alloc _) ⟨w2.heap.size, 0, none⟩ 1 1 [.int .i64 (x : Int)] rfl rfl ?c1 ?c2 ?c3 ?c4 ?c5 ?_)
      case c1 =>
        intro j u hj
        match j, hj with
        | 0, hj => simp at hj; subst hj; simp [Addr.add]
      case c2 => intro u hu; simp at hu; subst hu; rfl
      case c3 => unfold maxLen; omega
      case c4 => omega
      case c5 => simp; omega
      intro v' w3 hown' hgrow hnil
      have HB3 := Lib.hid ((HB2.out.alloc hsz2 _).grown hgrow (by simp; omega) (fun q hq => (hown.lt q hq).1))
      have HO3 : Hid (w3.ownsRow w1.heap.size 3 1 v' (pre ++ [x]).length (ints (pre ++ [x]))) := by
        unfold Hid; simpa [ints] using hown'
      have hx2 : (x : Int) + 1 ≤ 9223372036854775807 := by omega
      have hkl : k + 1 ≤ (pre ++ [x]).length := by simp; omega
      have HKL := Lib.hid hkl
      clear hown' hgrow hown hnil hkl
      go_wp2
      go_roundw
      case rel => exact ⟨k + 1, (x : Int) + 1, pre ++ [x], by go_num, rfl, hx2, HPN.out, HKL.out, HO3.out, HB3.out⟩
      case measure => simp [intOf]; omega
    | nil =>
      have hpre : pre = from_ F n fr := by
        have := HP.out
        rw [hfl, List.append_nil] at this
        exact this
      subst hpre
      have HNX := Lib.hid (next_no b g n F p hp _ ST2.out.s ST2.out.t hfl)
      clear hfl HP
      go_wp2_with fail
      refine HNX.out.mono ?_
      rintro e w2 ⟨rfl, hb2⟩
      have ST3 := Lib.hid (ST2.out.quiet hb2)
      have HG := Lib.hid (Sl.of_own (own_below HO.out hb2) (by omega))
      clear hb2 HNX HO ST2 HB
      go_wp2_with fail
      refine (listed_s h n n F (lst F n) _ hn3 ST3.out.l rfl).mono ?_
      rintro e w3 ⟨v3, rfl, ⟨a2, c2, rfl, hl2, hat⟩, _, hb3⟩
      have ST4 := Lib.hid (ST3.out.quiet hb3)
      have HG4 := Lib.hid (HG.out.below hb3)
      have HAT := Lib.hid hat
      have HCUT := Lib.hid (cutF_all F n fr)
      clear hb3 hat HG ST3
      generalize lst F n = L at *
      go_wp2
      go_loopw [15, 64] (fun v i wr => ∃ k : Nat, k ≤ L.length ∧ i = .int .i64 k ∧ Hid (wr.ownsRow w3.heap.size 3 1 v (cutF L fr k).length (ints (cutF L fr k))) ∧ Hid (Below w3.heap.size w3 wr)) (fun _ i _ => L.length - (intOf i).toNat)
      case atStart => exact ⟨0, Nat.zero_le _, rfl, World.ownsRow_nil _ _ _ _, Below.refl _ _⟩
      case round =>
        obtain ⟨k2, hk2, rfl, HO2, HB2⟩ := hrel
        by_cases hlt2 : k2 < L.length
        · obtain ⟨G, O, rfl, hG, hcs⟩ := HAT.out (by omega)
          have hcx := (HB2.out.cell (p := ⟨G, O + k2, none⟩) hG).trans (hcs k2 hlt2)
          have hsn := cutF_snoc L fr k2 hlt2
          have hll := cutF_len L fr k2
          have hsz2 := HB2.out.size
          have hown := HO2.out
          generalize L[k2] = x at *
          by_cases hge : fr ≤ (x : Int)
          · rw [if_pos hge] at hsn
            have HSN := Lib.hid hsn
            clear hsn hcs
            generalize cutF L fr k2 = C at *
            go_wp2_with (at_builtin; refine wpList_append_own _ rfl _ _ 48 rfl w3.heap.size 3 i0 (.int .i64 0) 1 8 Tryd.underlying48 hi hz0 hz1 hz2 rfl (by decide) _ _ _ rfl (hown.alloc _) ⟨wr.heap.size, 0, none⟩ 1 1 [.int .i64 (x : Int)] rfl rfl ?c1 ?c2 ?c3 ?c4 ?c5 ?_)
            case c1 =>
              intro j u hj
              match j, hj with
              | 0, hj => simp at hj; subst hj; simp [Addr.add]
            case c2 => intro u hu; simp at hu; subst hu; rfl
            case c3 => unfold maxLen; omega
            case c4 => omega
            case c5 => simp; omega
            intro v' w5 hown' hgrow hnil
            have HB5 := Lib.hid ((HB2.out.alloc hsz2 _).grown hgrow (by simp; omega) (fun q hq => (hown.lt q hq).1))
            have HO5 : Hid (w5.ownsRow w3.heap.size 3 1 v' (C ++ [x]).length (ints (C ++ [x]))) := by
              unfold Hid; simpa [ints] using hown'
            clear hown' hgrow hown hnil
            go_wp2
            go_roundw
            case rel => exact ⟨k2 + 1, by omega, by go_num, by rw [HSN.out]; exact HO5.out, HB5.out⟩
            case measure => simp [intOf]; omega
          · rw [if_neg hge, List.append_nil] at hsn
            have HSN := Lib.hid hsn
            have hge2 : (x : Int) < fr := by omega
            clear hsn hcs hown hge
            go_wp2
            go_roundw
            case rel => exact ⟨k2 + 1, by omega, by go_num, by rw [HSN.out]; exact HO2.out, HB2.out⟩
            case measure => simp [intOf]; omega
        · obtain rfl : k2 = L.length := by omega
          have hw2 := HO2.out
          rw [HCUT.out] at hw2
          have HW := Lib.hid (Sl.of_own hw2 (by omega))
          clear hw2
          have ST5 := Lib.hid (ST4.out.quiet HB2.out)
          go_wp2_with fail
          refine (equal_yes _ _ (from_ F n fr) _ (HG4.out.below HB2.out) HW.out).mono ?_
          rintro e w6 ⟨rfl, q, rfl⟩
          have ST6 := Lib.hid (ST5.out.quiet (bel_drewN (Below.refl _ _) q))
          go_wp2_with fail
          refine (works_ok _ ST6.out.t).mono ?_
          rintro e w7 ⟨rfl, hb7⟩
          go_wp2
          go_ret
          exact ⟨rfl, bel2 ST6.out.bel hb7⟩
end Go.Proofs.YtaenemdclmnnaaaDoor
