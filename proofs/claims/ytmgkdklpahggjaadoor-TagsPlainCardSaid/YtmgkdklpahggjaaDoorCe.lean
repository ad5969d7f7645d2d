/- The contracts of tags.Cut where it refuses, of tags.Quote and of tags.Order. -/
import Derived.Test.YtmgkdklpahggjaaDoorCd
namespace Go.Proofs.YtmgkdklpahggjaaDoor
open Go.RowKit

set_option maxRecDepth 100000 in
set_option maxHeartbeats 400000 in
theorem cut_no (s : ByteArray) (wd : Int) (w : World) (he : Env w) (hs : s.size ≤ 140737488351232) (h : NoTag s.data.toList) :
    Calls Tryd.prog 24 #[.string s, .int .i64 wd] w fun e w' => e = .returned (.tuple #[.string ⟨#[]⟩, .int .i64 16]) ∧ Below w.heap.size w w' := by
  have HN := Lib.hid h
  clear h
  go_enter Tryd.func24, Tryd.ntmps24
  go_wp2_with fail
  refine (check_no s _ he hs HN.out).mono ?_
  rintro e w1 ⟨rfl, hb1⟩
  go_wp2
  go_ret2
  exact ⟨rfl, hb1⟩
set_option maxRecDepth 100000 in
set_option maxHeartbeats 400000 in
theorem cut_neg (s : ByteArray) (rs : List Nat) (wd : Int) (w : World) (he : Env w) (h : Tag s.data.toList rs) (hwd : wd < 0) :
    Calls Tryd.prog 24 #[.string s, .int .i64 wd] w fun e w' => e = .returned (.tuple #[.string ⟨#[]⟩, .int .i64 2]) ∧ Below w.heap.size w w' := by
  have HT := Lib.hid h
  clear h
  go_enter Tryd.func24, Tryd.ntmps24
  go_wp2_with fail
  refine (check_tag s rs _ he HT.out).mono ?_
  rintro e w1 ⟨rfl, hb1⟩
  go_wp2
  go_ret2
  exact ⟨rfl, hb1⟩

/-! ### Quote -/
theorem two_len (c : UInt8) (a b : UInt8) (h : ([c] == [a, b]) = false) (l : List UInt8) : (Lib.replace l [c] [a, b] (-1)).length ≤ 2 * l.length := by
  rw [replaceAll_one c _ _ h]
  induction l with
  | nil => simp
  | cons x t ih =>
    rw [List.flatMap_cons, List.length_append, List.length_cons]
    split
    · simp only [List.length_cons, List.length_nil]; omega
    · simp only [List.length_cons, List.length_nil]; omega
theorem arr_size (l : List UInt8) : (⟨l.toArray⟩ : ByteArray).size = l.length := by rw [Lib.size_eq]

set_option maxRecDepth 100000 in
set_option maxHeartbeats 1000000 in
theorem quote_tag (s : ByteArray) (rs : List Nat) (w : World) (he : Env w) (h : Tag s.data.toList rs) :
    Calls Tryd.prog 14 #[.string s] w fun e w' => e = .returned (.tuple #[.string ⟨(quo s.data.toList).toArray⟩, .int .i64 0]) ∧ Below w.heap.size w w' := by
  have hs : s.size ≤ 96 := by rw [Lib.size_eq]; exact (tag_len h).2
  have HT := Lib.hid h
  clear h
  go_enter Tryd.func14, Tryd.ntmps14
  go_wp2_with fail
  refine (check_tag s rs _ he HT.out).mono ?_
  rintro e w1 ⟨rfl, hb1⟩
  have HE1 := Lib.hid (he.below hb1)
  have HB1 := Lib.hid hb1
  clear he hb1
  go_wp2_with fail
  obtain ⟨m, hm⟩ := HE1.out.len
  have hcb := Lib.countB_le ⟨#[92]⟩ (by decide) s.size s (Nat.le_refl _)
  refine (Tryd.strings_ReplaceAll s ⟨#[92]⟩ ⟨#[92, 92]⟩ m _ (by omega) hm (by decide) (by show s.size + Lib.countB s ⟨#[92]⟩ * 2 ≤ _; omega)).mono ?_
  clear hm hcb m
  rintro e w2 ⟨rfl, hb2⟩
  have HE2 := Lib.hid (HE1.out.below hb2)
  have HB2 := Lib.hid (bel2 HB1.out hb2)
  clear hb2
  have hq1 : (⟨(Lib.replaceAll s.data.toList [92] [92, 92]).toArray⟩ : ByteArray).size ≤ 192 := by
    rw [arr_size]
    have := two_len 92 92 92 (by decide) s.data.toList
    rw [← Lib.size_eq] at this
    exact Nat.le_trans this (by omega)
  generalize hg1 : (⟨(Lib.replaceAll s.data.toList [92] [92, 92]).toArray⟩ : ByteArray) = q1 at *
  have HG1 := Lib.hid hg1
  clear hg1
  go_wp2_with fail
  obtain ⟨m, hm⟩ := HE2.out.len
  have hcb := Lib.countB_le ⟨#[34]⟩ (by decide) q1.size q1 (Nat.le_refl _)
  refine (Tryd.strings_ReplaceAll q1 ⟨#[34]⟩ ⟨#[92, 34]⟩ m _ (by omega) hm (by decide) (by show q1.size + Lib.countB q1 ⟨#[34]⟩ * 2 ≤ _; omega)).mono ?_
  clear hm hcb m
  rintro e w3 ⟨rfl, hb3⟩
  have HB3 := Lib.hid (bel2 HB2.out hb3)
  clear hb3
  have hq2 : (⟨(Lib.replaceAll q1.data.toList [34] [92, 34]).toArray⟩ : ByteArray).size ≤ 384 := by
    rw [arr_size]
    have := two_len 34 92 34 (by decide) q1.data.toList
    rw [← Lib.size_eq] at this
    exact Nat.le_trans this (by omega)
  generalize hg2 : (⟨(Lib.replaceAll q1.data.toList [34] [92, 34]).toArray⟩ : ByteArray) = q2 at *
  have HG2 := Lib.hid hg2
  clear hg2
  go_wp2
  go_ret2
  refine ⟨?_, HB3.out⟩
  have e2 : q2 = ⟨(esc s.data.toList).toArray⟩ := by
    rw [← HG2.out, ← HG1.out]
    congr 1
    congr 1
    exact twice_esc s.data.toList
  rw [e2]
  have e3 : (⟨#[34]⟩ : ByteArray) ++ ⟨(esc s.data.toList).toArray⟩ ++ ⟨#[34]⟩ = ⟨(quo s.data.toList).toArray⟩ := by
    apply ByteArray.ext
    simp [quo]
  rw [← e3]
  rfl
set_option maxRecDepth 100000 in
set_option maxHeartbeats 400000 in
theorem quote_no (s : ByteArray) (w : World) (he : Env w) (hs : s.size ≤ 140737488351232) (h : NoTag s.data.toList) :
    Calls Tryd.prog 14 #[.string s] w fun e w' => e = .returned (.tuple #[.string ⟨#[]⟩, .int .i64 16]) ∧ Below w.heap.size w w' := by
  have HN := Lib.hid h
  clear h
  go_enter Tryd.func14, Tryd.ntmps14
  go_wp2_with fail
  refine (check_no s _ he hs HN.out).mono ?_
  rintro e w1 ⟨rfl, hb1⟩
  go_wp2
  go_ret2
  exact ⟨rfl, hb1⟩

/-! ### Order -/
set_option maxRecDepth 100000 in
set_option maxHeartbeats 1000000 in
theorem order_any (a b : ByteArray) (w : World) (he : Env w) (ha : a.size ≤ 140737488351232) (hb : b.size ≤ 140737488351232) :
    Calls Tryd.prog 26 #[.string a, .string b] w fun e w' => e = .returned (.int .i64 (ordT a.data.toList b.data.toList)) ∧ Below w.heap.size w w' := by
  rcases tag_dec a.data.toList with ⟨rs, hta⟩ | hta <;> rcases tag_dec b.data.toList with ⟨ts, htb⟩ | htb
  · rw [ordT_both hta htb]
    have HA := Lib.hid hta
    have HB := Lib.hid htb
    clear hta htb
    go_enter Tryd.func26, Tryd.ntmps26
    go_wp2_with fail
    refine (check_tag a rs _ he HA.out).mono ?_
    rintro e w1 ⟨rfl, hb1⟩
    go_wp2_with fail
    refine (check_tag b ts _ (he.below hb1) HB.out).mono ?_
    rintro e w2 ⟨rfl, hb2⟩
    go_wp2_with fail
    refine (Tryd.strings_Compare a b _).mono ?_
    rintro e w3 ⟨rfl, rfl⟩
    go_wp2
    go_ret
    exact ⟨rfl, bel2 hb1 hb2⟩
  · rw [ordT_left hta htb]
    have HA := Lib.hid hta
    have HB := Lib.hid htb
    clear hta htb
    go_enter Tryd.func26, Tryd.ntmps26
    go_wp2_with fail
    refine (check_tag a rs _ he HA.out).mono ?_
    rintro e w1 ⟨rfl, hb1⟩
    go_wp2_with fail
    refine (check_no b _ (he.below hb1) hb HB.out).mono ?_
    rintro e w2 ⟨rfl, hb2⟩
    go_wp2
    go_ret
    exact ⟨rfl, bel2 hb1 hb2⟩
  · rw [ordT_right hta htb]
    have HA := Lib.hid hta
    have HB := Lib.hid htb
    clear hta htb
    go_enter Tryd.func26, Tryd.ntmps26
    go_wp2_with fail
    refine (check_no a _ he ha HA.out).mono ?_
    rintro e w1 ⟨rfl, hb1⟩
    go_wp2_with fail
    refine (check_tag b ts _ (he.below hb1) HB.out).mono ?_
    rintro e w2 ⟨rfl, hb2⟩
    go_wp2
    go_ret
    exact ⟨rfl, bel2 hb1 hb2⟩
  · rw [ordT_none hta htb]
    have HA := Lib.hid hta
    have HB := Lib.hid htb
    clear hta htb
    go_enter Tryd.func26, Tryd.ntmps26
    go_wp2_with fail
    refine (check_no a _ he ha HA.out).mono ?_
    rintro e w1 ⟨rfl, hb1⟩
    go_wp2_with fail
    refine (check_no b _ (he.below hb1) hb HB.out).mono ?_
    rintro e w2 ⟨rfl, hb2⟩
    go_wp2
    go_ret
    exact ⟨rfl, bel2 hb1 hb2⟩
end Go.Proofs.YtmgkdklpahggjaaDoor
