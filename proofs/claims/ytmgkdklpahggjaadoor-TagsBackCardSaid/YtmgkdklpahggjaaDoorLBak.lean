/- The walk of the statement TagsBack: it returns true for all texts. -/
import Derived.Test.YtmgkdklpahggjaaDoorWe
namespace Go.Proofs.YtmgkdklpahggjaaDoor
open Go.RowKit

theorem unquote_str (s x : ByteArray) (k : Nat) (rs : List Nat) (w : World) (he : Env w) (hs : s.size ≤ 140737488351232) (h : read s.data.toList = some (x.data.toList, k)) (ht : Tag x.data.toList rs) :
    Calls Tryd.prog 22 #[.string s] w fun e w' => e = .returned (.tuple #[.string x, .int .i64 k, .int .i64 0]) ∧ Below w.heap.size w w' := by
  have h2 := unquote_tag s x.data.toList k rs w he hs h ht
  rwa [Lib.mk_data] at h2
theorem quo_more (l m : List UInt8) : quo l ++ m = 34 :: (esc l ++ 34 :: m) := by simp [quo]
theorem read_more (l m : List UInt8) : read (quo l ++ m) = some (l, (quo l).length) := by
  rw [quo_more, read_quote, scan_esc]; simp [quo]
theorem read_cut (l : List UInt8) (i : Nat) (h : i < (quo l).length) : read ((quo l).take i) = none := by
  cases i with
  | zero => rfl
  | succ i =>
    unfold quo at h ⊢
    rw [List.take_succ_cons, read_quote, scan_cut l i (by simp at h; omega)]
    rfl

set_option maxRecDepth 100000 in
set_option maxHeartbeats 1000000 in
theorem bak_long (s m : ByteArray) (w : World) (hs : s.size ≤ 140737488351232) (hm : m.size ≤ 140737488351232) (he : Env w) (h : 500 < s.size ∨ 500 < m.size) :
    Calls Tryd.prog 7 #[.string s, .string m] w fun e w' => e = .returned (.bool true) ∧ Below w.heap.size w w' := by
  by_cases h1 : 500 < s.size
  · go_enter Tryd.func7, Tryd.ntmps7
    go_wp2_with fail
    refine (works_ok _ he).mono ?_
    rintro e w1 ⟨rfl, hb1⟩
    go_wp2
    go_ret
    exact ⟨rfl, hb1⟩
  · have h2 : 500 < m.size := by omega
    go_enter Tryd.func7, Tryd.ntmps7
    go_wp2_with fail
    refine (works_ok _ he).mono ?_
    rintro e w1 ⟨rfl, hb1⟩
    go_wp2
    go_ret
    exact ⟨rfl, hb1⟩
set_option maxRecDepth 100000 in
set_option maxHeartbeats 1000000 in
theorem bak_no (s m : ByteArray) (w : World) (hs : s.size ≤ 500) (hm : m.size ≤ 500) (he : Env w) (h : NoTag s.data.toList) :
    Calls Tryd.prog 7 #[.string s, .string m] w fun e w' => e = .returned (.bool true) ∧ Below w.heap.size w w' := by
  have HN := Lib.hid h
  have HE := Lib.hid he
  clear h he
  go_enter Tryd.func7, Tryd.ntmps7
  go_wp2_with fail
  refine (quote_no s _ HE.out (by omega) HN.out).mono ?_
  rintro e w1 ⟨rfl, hb1⟩
  have B1 := Lib.hid hb1
  clear hb1
  go_wp2_with fail
  refine (check_no s _ (HE.out.below B1.out) (by omega) HN.out).mono ?_
  rintro e w2 ⟨rfl, hb2⟩
  have B2 := Lib.hid (bel2 B1.out hb2)
  clear hb2
  go_wp2_with fail
  refine (works_ok _ (HE.out.below B2.out)).mono ?_
  rintro e w3 ⟨rfl, hb3⟩
  go_wp2
  go_ret
  exact ⟨rfl, bel2 B2.out hb3⟩

set_option maxRecDepth 100000 in
set_option maxHeartbeats 2000000 in
theorem bak_tag (s m : ByteArray) (rs : List Nat) (w : World) (hs : s.size ≤ 500) (hm : m.size ≤ 500) (he : Env w) (h : Tag s.data.toList rs) :
    Calls Tryd.prog 7 #[.string s, .string m] w fun e w' => e = .returned (.bool true) ∧ Below w.heap.size w w' := by
  obtain ⟨Q, hQ⟩ : ∃ Q : ByteArray, (⟨(quo s.data.toList).toArray⟩ : ByteArray) = Q := ⟨_, rfl⟩
  have hQl : Q.data.toList = quo s.data.toList := by rw [← hQ]
  have hQs : Q.size = (quo s.data.toList).length := by rw [Lib.size_eq, hQl]
  have hQb : Q.size ≤ 1002 := by
    rw [hQs]; have := (esc_length s.data.toList).2; rw [← Lib.size_eq] at this; simp [quo]; omega
  have hrm : read (Q ++ m).data.toList = some (s.data.toList, Q.size) := by
    rw [hQs, ← read_more s.data.toList m.data.toList, ← hQl]; simp
  have hrc : ∀ i, i < Q.size → read (Q.extract 0 i).data.toList = none := by
    intro i hi
    rw [Lib.extract_data, List.drop_zero, Nat.sub_zero, hQl]
    exact read_cut _ i (by rw [← hQs]; exact hi)
  have HT := Lib.hid h
  have HE := Lib.hid he
  have HRM := Lib.hid hrm
  have HRC := Lib.hid hrc
  have HQ := Lib.hid hQ
  clear h he hrm hrc hQ hQl hQs
  go_enter Tryd.func7, Tryd.ntmps7
  go_wp2_with fail
  refine (quote_tag s rs _ HE.out HT.out).mono ?_
  rintro e w1 ⟨rfl, hb1⟩
  rw [HQ.out]
  have B1 := Lib.hid hb1
  clear hb1
  go_wp2_with fail
  refine (check_tag s rs _ (HE.out.below B1.out) HT.out).mono ?_
  rintro e w2 ⟨rfl, hb2⟩
  have B2 := Lib.hid (bel2 B1.out hb2)
  clear hb2 B1
  go_wp2_with fail
  refine (unquote_str (Q ++ m) s Q.size rs _ (HE.out.below B2.out) (by rw [ByteArray.size_append]; omega) HRM.out HT.out).mono ?_
  rintro e w3 ⟨rfl, hb3⟩
  have B3 := Lib.hid (bel2 B2.out hb3)
  clear hb3 B2
  go_wp2_with fail
  go_loopw [10] (fun v wr => ∃ i : Nat, i ≤ Q.size ∧ v = .int .i64 i ∧ Hid (Below w.heap.size w wr)) (fun v _ => Q.size - (intOf v).toNat)
  case atStart => exact ⟨0, Nat.zero_le _, rfl, B3⟩
  case round =>
    obtain ⟨i, hi, rfl, BR⟩ := hrel
    by_cases hlt : i < Q.size
    · go_wp2_with fail
      refine (unquote_form (Q.extract 0 i) _ (by rw [ByteArray.size_extract]; omega) (HRC.out i hlt)).mono ?_
      rintro e w4 ⟨rfl, hb4⟩
      have B4 := Lib.hid (bel2 BR.out hb4)
      clear hb4
      go_wp2
      go_roundw
      case rel => exact ⟨i + 1, by omega, by go_num, B4⟩
      case measure => simp [intOf]; omega
    · go_wp2_with fail
      refine (works_ok _ (HE.out.below BR.out)).mono ?_
      rintro e w4 ⟨rfl, hb4⟩
      go_wp2
      go_ret
      exact ⟨rfl, bel2 BR.out hb4⟩
theorem bak_walk (s m : ByteArray) (w : World) (hs : s.size ≤ 140737488351232) (hm : m.size ≤ 140737488351232) (he : Env w) :
    Calls Tryd.prog 7 #[.string s, .string m] w fun e w' => e = .returned (.bool true) ∧ Below w.heap.size w w' := by
  by_cases h : 500 < s.size ∨ 500 < m.size
  · exact bak_long s m w hs hm he h
  rcases tag_dec s.data.toList with ⟨rs, ht⟩ | ht
  · exact bak_tag s m rs w (by omega) (by omega) he ht
  · exact bak_no s m w (by omega) (by omega) he ht
end Go.Proofs.YtmgkdklpahggjaaDoor
