/- The contracts of the document's Parse, of Print (both), of Same, and of the helpers letters and ofs. -/
import Derived.Test.YtllfmancfkmimaaDoorAa
import Derived.Deep.RegionWith
namespace Go.Proofs.YtllfmancfkmimaaDoor
open Go.RowKit

theorem byte_at_ (s : ByteArray) (k : Nat) (h : k < s.size) : ∃ (hk : k < s.data.toList.length) (b : UInt8), s.data.toList[k] = b ∧ s[k].toNat = b.toNat := ⟨by rw [← size_data]; exact h, _, rfl, rfl⟩
set_option maxRecDepth 100000 in
theorem rparse_many (s : ByteArray) (w : World) (h : 2000 < s.size) (h2 : s.size ≤ 140737488351232) : Calls Tryd.prog 13 #[.string s] w (ParseV s.data.toList w) := by
  have hp : Hid (pE s.data.toList = 11) := pE_many (by rw [← size_data]; exact h)
  have hl : Hid (pL s.data.toList = []) := pL_no (by rw [hp.out]; decide)
  go_enter Tryd.func13, Tryd.ntmps13
  go_wp2
  go_ret2
  exact ⟨_, by rw [hp.out]; rfl, by rw [hl.out]; exact Sl.nil _, Below.refl _ _⟩

theorem nums_len_take (bs : List UInt8) (k : Nat) (h : k ≤ bs.length) : (nums (bs.take k)).length = k := by rw [nums_length, List.length_take]; omega
set_option maxRecDepth 100000 in
set_option maxHeartbeats 4000000 in
theorem rparse_few (s : ByteArray) (w : World) (hs : s.size ≤ 2000) : Calls Tryd.prog 13 #[.string s] w (ParseV s.data.toList w) := by
  obtain ⟨i0, hi, hz0, hz1, hz2⟩ := info_parts info_int
  have HSZ := Lib.hid (size_data s)
  go_enter Tryd.func13, Tryd.ntmps13
  go_wp2
  go_loopw [4, 5] (fun v i wr => ∃ k : Nat, k ≤ s.size ∧ i = .int .i64 k ∧ Hid (wr.ownsRow w.heap.size 3 1 v (nums (s.data.toList.take k)).length (ints (nums (s.data.toList.take k)))) ∧ Hid (Good (s.data.toList.take k)) ∧ Hid (Below w.heap.size w wr)) (fun _ i _ => s.size - (intOf i).toNat)
  case atStart => exact ⟨0, Nat.zero_le _, rfl, World.ownsRow_nil _ _ _ _, good_nil, Below.refl _ _⟩
  case round =>
    obtain ⟨k, hk, rfl, HO, HG, HB⟩ := hrel
    by_cases hlt : k < s.size
    · obtain ⟨hkl, b, hb1, hb2⟩ := byte_at_ s k hlt
      have hsz := HB.out.size
      have hown := HO.out
      have HNL := Lib.hid (nums_len_take s.data.toList k (by omega))
      have hnl : (nums (s.data.toList.take k)).length ≤ 2000 := by rw [HNL.out]; omega
      have HSN := Lib.hid (nums_snoc s.data.toList k hkl)
      have HGK : Hid (num b.toNat ≠ 0 → Good (s.data.toList.take (k + 1))) := fun h => by
        rw [List.take_succ_eq_append_getElem hkl]
        exact good_append.2 ⟨HG.out, fun x hx => by rw [List.mem_singleton.1 hx, hb1]; exact h⟩
      have HNG : Hid (num b.toNat = 0 → ¬ Good s.data.toList) := fun h hg => hg b (by rw [← hb1]; exact List.getElem_mem hkl) h
      rw [hb1] at HSN
      generalize nums (s.data.toList.take k) = L at *
      have HLE := Lib.hid hnl
      obtain ⟨x, hx⟩ : ∃ x, b.toNat = x := ⟨_, rfl⟩
      rw [hx] at hb2 HGK HNG HSN
      clear hb1 hx
      by_cases c1 : x = 111
      · subst c1
        have HS2 : Hid (nums (s.data.toList.take (k + 1)) = L ++ [1]) := HSN
        have HG2 := Lib.hid (HGK.out (by decide))
        clear HGK HNG HSN
        go_wp2_with (at_builtin; refine wpList_append_own _ rfl _ _ 22 rfl w.heap.size 3 i0 (.int .i64 0) 1 8 Tryd.underlying22 hi hz0 hz1 hz2 rfl (by decide) _ _ _ rfl (hown.alloc _) ⟨wr.heap.size, 0, none⟩ 1 1 [.int .i64 1] rfl rfl ?c1 ?c2 ?c3 ?c4 ?c5 ?_)
        case c1 =>
          intro j u hj
          match j, hj with
          | 0, hj => simp at hj; subst hj; simp [Addr.add]
        case c2 => intro u hu; simp at hu; subst hu; rfl
        case c3 => have := HLE.out; unfold maxLen; omega
        case c4 => have := HLE.out; omega
        case c5 => simp; omega
        intro v' w2 hown' hgrow _
        have HB2 := Lib.hid ((HB.out.alloc hsz _).grown hgrow (by simp; omega) (fun q hq => (hown.lt q hq).1))
        have HO2 : Hid (w2.ownsRow w.heap.size 3 1 v' (L ++ [1]).length (ints (L ++ [1]))) := by
          unfold Hid; simpa [ints] using hown'
        clear hown' hgrow hown
        go_wp2
        go_roundw
        case rel => exact ⟨k + 1, by omega, by go_num, by rw [HS2.out]; exact HO2.out, HG2.out, HB2.out⟩
        case measure => simp [intOf]; omega
      by_cases c2 : x = 108
      · subst c2
        have HS2 : Hid (nums (s.data.toList.take (k + 1)) = L ++ [2]) := HSN
        have HG2 := Lib.hid (HGK.out (by decide))
        clear HGK HNG HSN c1
        go_wp2_with (at_builtin; refine wpList_append_own _ rfl _ _ 22 rfl w.heap.size 3 i0 (.int .i64 0) 1 8 Tryd.underlying22 hi hz0 hz1 hz2 rfl (by decide) _ _ _ rfl (hown.alloc _) ⟨wr.heap.size, 0, none⟩ 1 1 [.int .i64 2] rfl rfl ?c1 ?c2 ?c3 ?c4 ?c5 ?_)
        case c1 =>
          intro j u hj
          match j, hj with
          | 0, hj => simp at hj; subst hj; simp [Addr.add]
        case c2 => intro u hu; simp at hu; subst hu; rfl
        case c3 => have := HLE.out; unfold maxLen; omega
        case c4 => have := HLE.out; omega
        case c5 => simp; omega
        intro v' w2 hown' hgrow _
        have HB2 := Lib.hid ((HB.out.alloc hsz _).grown hgrow (by simp; omega) (fun q hq => (hown.lt q hq).1))
        have HO2 : Hid (w2.ownsRow w.heap.size 3 1 v' (L ++ [2]).length (ints (L ++ [2]))) := by
          unfold Hid; simpa [ints] using hown'
        clear hown' hgrow hown
        go_wp2
        go_roundw
        case rel => exact ⟨k + 1, by omega, by go_num, by rw [HS2.out]; exact HO2.out, HG2.out, HB2.out⟩
        case measure => simp [intOf]; omega
      by_cases c3 : x = 102
      · subst c3
        have HS2 : Hid (nums (s.data.toList.take (k + 1)) = L ++ [3]) := HSN
        have HG2 := Lib.hid (HGK.out (by decide))
        clear HGK HNG HSN c1 c2
        go_wp2_with (at_builtin; refine wpList_append_own _ rfl _ _ 22 rfl w.heap.size 3 i0 (.int .i64 0) 1 8 Tryd.underlying22 hi hz0 hz1 hz2 rfl (by decide) _ _ _ rfl (hown.alloc _) ⟨wr.heap.size, 0, none⟩ 1 1 [.int .i64 3] rfl rfl ?c1 ?c2 ?c3 ?c4 ?c5 ?_)
        case c1 =>
          intro j u hj
          match j, hj with
          | 0, hj => simp at hj; subst hj; simp [Addr.add]
        case c2 => intro u hu; simp at hu; subst hu; rfl
        case c3 => have := HLE.out; unfold maxLen; omega
        case c4 => have := HLE.out; omega
        case c5 => simp; omega
        intro v' w2 hown' hgrow _
        have HB2 := Lib.hid ((HB.out.alloc hsz _).grown hgrow (by simp; omega) (fun q hq => (hown.lt q hq).1))
        have HO2 : Hid (w2.ownsRow w.heap.size 3 1 v' (L ++ [3]).length (ints (L ++ [3]))) := by
          unfold Hid; simpa [ints] using hown'
        clear hown' hgrow hown
        go_wp2
        go_roundw
        case rel => exact ⟨k + 1, by omega, by go_num, by rw [HS2.out]; exact HO2.out, HG2.out, HB2.out⟩
        case measure => simp [intOf]; omega
      have hbad := HNG.out (num_no c1 c2 c3)
      have hp : Hid (pE s.data.toList = 9) := pE_form (by rw [← HSZ.out]; exact hs) hbad
      have hl : Hid (pL s.data.toList = []) := pL_no (by rw [hp.out]; decide)
      have n1 : ((x : Int) == 111) = false := by simp; omega
      have n2 : ((x : Int) == 108) = false := by simp; omega
      have n3 : ((x : Int) == 102) = false := by simp; omega
      clear hbad c1 c2 c3 HGK HNG HSN hown
      go_wp2
      go_ret2
      exact ⟨_, by rw [hp.out]; rfl, by rw [hl.out]; exact Sl.nil _, HB.out⟩
    · obtain rfl : k = s.size := by omega
      have e : s.data.toList.take s.size = s.data.toList := by rw [HSZ.out]; exact List.take_length
      have hg := HG.out
      have ho := HO.out
      rw [e] at hg ho
      have hp : Hid (pE s.data.toList = 0) := pE_ok (by rw [← HSZ.out]; exact hs) hg
      have hl : Hid (pL s.data.toList = nums s.data.toList) := pL_ok hp.out
      have HS := Lib.hid (Sl.of_own ho)
      clear hg ho e
      go_wp2
      go_ret2
      exact ⟨_, by rw [hp.out]; rfl, by rw [hl.out]; exact HS.out, HB.out⟩
theorem rparse_ok (s : ByteArray) (w : World) (h : s.size ≤ 140737488351232) : Calls Tryd.prog 13 #[.string s] w (ParseV s.data.toList w) := by
  by_cases h1 : s.size ≤ 2000
  · exact rparse_few s w h1
  · exact rparse_many s w (by omega) h
end Go.Proofs.YtllfmancfkmimaaDoor
