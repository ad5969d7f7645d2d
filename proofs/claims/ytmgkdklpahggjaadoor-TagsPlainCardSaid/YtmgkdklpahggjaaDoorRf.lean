/- The contract of the document's Order. -/
import Derived.Test.YtmgkdklpahggjaaDoorRe
namespace Go.Proofs.YtmgkdklpahggjaaDoor
open Go.RowKit

theorem cmpN_step : ∀ (ps xs ys : List Nat), cmpN (ps ++ xs) (ps ++ ys) = cmpN xs ys
  | [], _, _ => rfl
  | p :: ps, xs, ys => by
    rw [List.cons_append, List.cons_append, cmpN, if_neg (by omega), if_neg (by omega), cmpN_step ps xs ys]
/-- The first k runes are the same: the rest decides. -/
theorem cmpN_at (l m : List Nat) (k : Nat) (h : l.take k = m.take k) : cmpN l m = cmpN (l.drop k) (m.drop k) := by
  have := cmpN_step (l.take k) (l.drop k) (m.drop k)
  rw [List.take_append_drop, h, List.take_append_drop] at this
  exact this
theorem cmpN_less {a b : Nat} {xs ys : List Nat} (h : a < b) : cmpN (a :: xs) (b :: ys) = -1 := by rw [cmpN, if_pos h]
theorem cmpN_more {a b : Nat} {xs ys : List Nat} (h : b < a) : cmpN (a :: xs) (b :: ys) = 1 := by rw [cmpN, if_neg (by omega), if_pos h]

set_option maxRecDepth 100000 in
set_option maxHeartbeats 4000000 in
theorem rorder_both (a b : ByteArray) (rs ts : List Nat) (w : World) (ha : Tag a.data.toList rs) (hb : Tag b.data.toList ts) :
    Calls Tryd.prog 27 #[.string a, .string b] w fun e w' => e = .returned (.int .i64 (cmpN rs ts)) ∧ Below w.heap.size w w' := by
  have hsa : a.size ≤ 1000000 := by rw [Lib.size_eq]; have := (tag_len ha).2; omega
  have hsb : b.size ≤ 1000000 := by rw [Lib.size_eq]; have := (tag_len hb).2; omega
  have hr24 := ha.le
  have ht24 := hb.le
  have HA := Lib.hid ha
  have HB := Lib.hid hb
  clear ha hb
  go_enter Tryd.func27, Tryd.ntmps27
  go_wp2_with fail
  refine (rcheck_tag a rs _ HA.out).mono ?_
  rintro e w1 ⟨rfl, hb1⟩
  have B1 := Lib.hid hb1
  clear hb1
  go_wp2_with fail
  refine (rcheck_tag b ts _ HB.out).mono ?_
  rintro e w2 ⟨rfl, hb2⟩
  have B2 := Lib.hid (bel2 B1.out hb2)
  clear hb2 B1
  go_wp2_with fail
  refine (rrunes_any a _ hsa).mono ?_
  rintro e w3 ⟨hb3, ⟨rs', v, hrs, rfl, hown⟩ | ⟨hno, _⟩⟩
  rotate_left
  · exact absurd HA.out.utf (hno rs)
  obtain rfl := utf_unique HA.out.utf hrs
  clear hrs
  have B3 := Lib.hid (bel2 B2.out hb3)
  have hs23 := hb3.size
  clear hb3 B2
  rcases len_slice hown with ⟨rfl, hnil⟩ | ⟨g, cap, rfl, hg⟩
  · have := HA.out.pos
    rw [hnil] at this
    simp at this
  have hgl := (World.ownsRow.lt hown g rfl).2
  have HOWN := Lib.hid hown
  clear hown
  go_wp2_with fail
  refine (rrunes_any b _ hsb).mono ?_
  rintro e w4 ⟨hb4, ⟨ts', v, hts, rfl, hown2⟩ | ⟨hno, _⟩⟩
  rotate_left
  · exact absurd HB.out.utf (hno ts)
  obtain rfl := utf_unique HB.out.utf hts
  clear hts
  rcases len_slice hown2 with ⟨rfl, hnil⟩ | ⟨g2, cap2, rfl, hg2⟩
  · have := HB.out.pos
    rw [hnil] at this
    simp at this
  have HOWN2 := Lib.hid hown2
  have CA : Hid (∀ k (h : k < rs.length), w4.cell? ⟨g, k, none⟩ = some (.int .i64 (rs[k] : Int))) := fun k h => (hb4.cell (p := ⟨g, k, none⟩) hgl).trans (ints_cell HOWN.out k h)
  have CB : Hid (∀ k (h : k < ts.length), w4.cell? ⟨g2, k, none⟩ = some (.int .i64 (ts[k] : Int))) := fun k h => ints_cell HOWN2.out k h
  have B4 := Lib.hid (bel2 B3.out hb4)
  clear hown2 hb4 B3 HOWN HOWN2
  go_wp2_with fail
  go_loopw [11] (fun i wr => ∃ k : Nat, k ≤ rs.length ∧ k ≤ ts.length ∧ i = .int .i64 k ∧ Hid (rs.take k = ts.take k) ∧ Hid (Below w.heap.size w wr) ∧ Hid (∀ k (h : k < rs.length), wr.cell? ⟨g, k, none⟩ = some (.int .i64 (rs[k] : Int))) ∧ Hid (∀ k (h : k < ts.length), wr.cell? ⟨g2, k, none⟩ = some (.int .i64 (ts[k] : Int)))) (fun i _ => rs.length - (intOf i).toNat)
  case atStart => exact ⟨0, Nat.zero_le _, Nat.zero_le _, rfl, rfl, B4, CA, CB⟩
  case round =>
    clear CA CB B4
    obtain ⟨k, hk1, hk2, rfl, HEQ, BQ, CA, CB⟩ := hrel
    by_cases h1 : k < rs.length
    · by_cases h2 : k < ts.length
      · have c1 : wr.cell? ⟨g, k, none⟩ = some (.int .i64 (rs[k] : Int)) := CA.out k h1
        have c2 : wr.cell? ⟨g2, k, none⟩ = some (.int .i64 (ts[k] : Int)) := CB.out k h2
        have hcmp : cmpN rs ts = cmpN (rs[k] :: rs.drop (k + 1)) (ts[k] :: ts.drop (k + 1)) := by
          rw [cmpN_at rs ts k HEQ.out, List.drop_eq_getElem_cons h1, List.drop_eq_getElem_cons h2]
        have hb1 : rs[k] ≤ 1114111 := okRune_le (HA.out.utf.1 _ (List.getElem_mem h1))
        have hb2 : ts[k] ≤ 1114111 := okRune_le (HB.out.utf.1 _ (List.getElem_mem h2))
        have ht1 : rs.take (k + 1) = rs.take k ++ [rs[k]] := List.take_succ_eq_append_getElem h1
        have ht2 : ts.take (k + 1) = ts.take k ++ [ts[k]] := List.take_succ_eq_append_getElem h2
        generalize rs[k] = x at *
        generalize ts[k] = y at *
        have HCMP := Lib.hid hcmp
        have HT1 := Lib.hid ht1
        have HT2 := Lib.hid ht2
        clear hcmp ht1 ht2
        by_cases hlt : x < y
        · go_wp2
          go_quiet (fail)
          go_wp2
          go_ret
          refine ⟨?_, below_drewN BQ.out _⟩
          rw [HCMP.out, cmpN_less hlt]
          rfl
        by_cases hgt : y < x
        · go_wp2
          go_quiet (fail)
          go_wp2
          go_quiet (fail)
          go_wp2
          go_ret
          refine ⟨?_, below_drewN (below_drewN BQ.out _) _⟩
          rw [HCMP.out, cmpN_more hgt]
          rfl
        · obtain rfl : x = y := by omega
          go_wp2
          go_quiet (fail)
          go_wp2
          go_quiet (fail)
          go_wp2
          go_roundw
          case rel => exact ⟨k + 1, by omega, by omega, by go_num, by unfold Hid; rw [HT1.out, HT2.out, HEQ.out], below_drewN BQ.out _, CA, CB⟩
          case measure => simp [intOf]; omega
      · obtain rfl : k = ts.length := by omega
        have hres : cmpN rs ts = 1 := by
          rw [cmpN_at rs ts ts.length HEQ.out, List.drop_length, List.drop_eq_getElem_cons h1]; rfl
        have HRES := Lib.hid hres
        clear hres
        go_wp2
        go_ret
        exact ⟨by rw [HRES.out]; rfl, BQ.out⟩
    · obtain rfl : k = rs.length := by omega
      by_cases h2 : rs.length < ts.length
      · have hres : cmpN rs ts = -1 := by
          rw [cmpN_at rs ts rs.length HEQ.out, List.drop_length, List.drop_eq_getElem_cons h2]; rfl
        have HRES := Lib.hid hres
        clear hres
        go_wp2
        go_ret
        exact ⟨by rw [HRES.out]; rfl, BQ.out⟩
      · have hl : rs.length = ts.length := by omega
        have hres : cmpN rs ts = 0 := by
          rw [cmpN_at rs ts rs.length HEQ.out, List.drop_length, hl, List.drop_length]; rfl
        have HRES := Lib.hid hres
        have hge : ¬ ts.length < rs.length := by omega
        clear hres hl
        go_wp2
        go_ret
        exact ⟨by rw [HRES.out]; rfl, BQ.out⟩

set_option maxRecDepth 100000 in
set_option maxHeartbeats 400000 in
theorem rorder_left (a b : ByteArray) (rs : List Nat) (w : World) (hb : b.size ≤ 1000000) (hta : Tag a.data.toList rs) (htb : NoTag b.data.toList) :
    Calls Tryd.prog 27 #[.string a, .string b] w fun e w' => e = .returned (.int .i64 1) ∧ Below w.heap.size w w' := by
  have HA := Lib.hid hta
  have HB := Lib.hid htb
  clear hta htb
  go_enter Tryd.func27, Tryd.ntmps27
  go_wp2_with fail
  refine (rcheck_tag a rs _ HA.out).mono ?_
  rintro e w1 ⟨rfl, hb1⟩
  go_wp2_with fail
  refine (rcheck_no b _ hb HB.out).mono ?_
  rintro e w2 ⟨rfl, hb2⟩
  go_wp2
  go_ret
  exact ⟨rfl, bel2 hb1 hb2⟩
set_option maxRecDepth 100000 in
set_option maxHeartbeats 400000 in
theorem rorder_right (a b : ByteArray) (ts : List Nat) (w : World) (ha : a.size ≤ 1000000) (hta : NoTag a.data.toList) (htb : Tag b.data.toList ts) :
    Calls Tryd.prog 27 #[.string a, .string b] w fun e w' => e = .returned (.int .i64 (-1)) ∧ Below w.heap.size w w' := by
  have HA := Lib.hid hta
  have HB := Lib.hid htb
  clear hta htb
  go_enter Tryd.func27, Tryd.ntmps27
  go_wp2_with fail
  refine (rcheck_no a _ ha HA.out).mono ?_
  rintro e w1 ⟨rfl, hb1⟩
  go_wp2_with fail
  refine (rcheck_tag b ts _ HB.out).mono ?_
  rintro e w2 ⟨rfl, hb2⟩
  go_wp2
  go_ret
  exact ⟨rfl, bel2 hb1 hb2⟩
set_option maxRecDepth 100000 in
set_option maxHeartbeats 400000 in
theorem rorder_none (a b : ByteArray) (w : World) (ha : a.size ≤ 1000000) (hb : b.size ≤ 1000000) (hta : NoTag a.data.toList) (htb : NoTag b.data.toList) :
    Calls Tryd.prog 27 #[.string a, .string b] w fun e w' => e = .returned (.int .i64 0) ∧ Below w.heap.size w w' := by
  have HA := Lib.hid hta
  have HB := Lib.hid htb
  clear hta htb
  go_enter Tryd.func27, Tryd.ntmps27
  go_wp2_with fail
  refine (rcheck_no a _ ha HA.out).mono ?_
  rintro e w1 ⟨rfl, hb1⟩
  go_wp2_with fail
  refine (rcheck_no b _ hb HB.out).mono ?_
  rintro e w2 ⟨rfl, hb2⟩
  go_wp2
  go_ret
  exact ⟨rfl, bel2 hb1 hb2⟩
/-- The document's order, be they tags or not. -/
theorem rorder_any (a b : ByteArray) (w : World) (ha : a.size ≤ 1000000) (hb : b.size ≤ 1000000) :
    Calls Tryd.prog 27 #[.string a, .string b] w fun e w' => e = .returned (.int .i64 (ordT a.data.toList b.data.toList)) ∧ Below w.heap.size w w' := by
  rcases tag_dec a.data.toList with ⟨rs, hta⟩ | hta <;> rcases tag_dec b.data.toList with ⟨ts, htb⟩ | htb
  · rw [ordT_both hta htb, cmp_utf hta.utf htb.utf]
    exact rorder_both a b rs ts w hta htb
  · rw [ordT_left hta htb]; exact rorder_left a b rs w hb hta htb
  · rw [ordT_right hta htb]; exact rorder_right a b ts w ha hta htb
  · rw [ordT_none hta htb]; exact rorder_none a b w ha hb hta htb
end Go.Proofs.YtmgkdklpahggjaaDoor
