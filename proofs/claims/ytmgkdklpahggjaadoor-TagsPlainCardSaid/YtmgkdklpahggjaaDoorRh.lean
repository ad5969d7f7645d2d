/- The contract of the document's Quote. -/
import Derived.Test.YtmgkdklpahggjaaDoorRg
namespace Go.Proofs.YtmgkdklpahggjaaDoor
open Go.RowKit

def RqRel (s : ByteArray) (n : Nat) (w : World) (v i : Value) (wr : World) : Prop :=
  ∃ (p : Nat) (acc : List UInt8), i = .int .i64 p ∧ p ≤ s.size ∧ acc.length ≤ 1 + 2 * p ∧ Hid (OwnB n wr v acc) ∧ Below n w wr ∧ n ≤ wr.heap.size ∧ Hid (acc = 34 :: esc (s.data.toList.take p))

theorem take_get (s : ByteArray) (p : Nat) (h : p < s.size) : s.data.toList.take (p + 1) = s.data.toList.take p ++ [s[p]] := by
  rw [List.take_succ_eq_append_getElem (by rw [← Lib.size_eq]; exact h)]; rfl
theorem esc_snoc (l : List UInt8) (c : UInt8) : esc (l ++ [c]) = esc l ++ escB c := by simp [esc]
theorem escB_yes {c : UInt8} (h : c = 34 ∨ c = 92) : escB c = [92, c] := by unfold escB; rw [if_pos h]
theorem escB_no {c : UInt8} (h : ¬ (c = 34 ∨ c = 92)) : escB c = [c] := by unfold escB; rw [if_neg h]
theorem ret2_str {a b : ByteArray} {v : Value} (h : a = b) : Ending.returned (.tuple #[.string a, v]) = .returned (.tuple #[.string b, v]) := by rw [h]

set_option maxRecDepth 100000 in
set_option maxHeartbeats 4000000 in
theorem rquote_tag (s : ByteArray) (rs : List Nat) (w : World) (h : Tag s.data.toList rs) :
    Calls Tryd.prog 15 #[.string s] w fun e w' => e = .returned (.tuple #[.string ⟨(quo s.data.toList).toArray⟩, .int .i64 0]) ∧ Below w.heap.size w w' := by
  obtain ⟨i0, hi, hz0, hz1, hz2⟩ := info_parts info_byte
  have hs : s.size ≤ 96 := by rw [Lib.size_eq]; exact (tag_len h).2
  have HT := Lib.hid h
  clear h
  generalize hQ : (⟨(quo s.data.toList).toArray⟩ : ByteArray) = Q
  have HQ := Lib.hid hQ
  clear hQ
  go_enter Tryd.func15, Tryd.ntmps15
  go_wp2_with fail
  refine (rcheck_tag s rs _ HT.out).mono ?_
  rintro e w1 ⟨rfl, hb1⟩
  have hs1 : w.heap.size ≤ w1.heap.size := hb1.size
  have HLIT : Hid (OwnB w.heap.size (w1.alloc (.cells #[.int .u8 34] 5)) (.slice (some ⟨w1.heap.size, 0, none⟩) 1 1) [34]) :=
    World.ownsRow_lit w1 #[.int .u8 34] 1 hs1 (by unfold maxLen; omega) rfl
  go_wp2
  go_loopw [4, 5] (fun v i wr => RqRel s w.heap.size w v i wr) (fun _ i _ => s.size - (intOf i).toNat)
  case atStart => exact ⟨0, [34], rfl, Nat.zero_le _, by simp, HLIT, hb1.alloc hs1 _, by simp; omega, rfl⟩
  case round =>
    clear HLIT hb1 hs1
    obtain ⟨p, acc, rfl, hp, hal, HOWN, hbw, hsz, HA⟩ := hrel
    by_cases hlt : p < s.size
    · have htk := take_get s p hlt
      obtain ⟨c, hc⟩ : ∃ c, s[p] = c := ⟨_, rfl⟩
      rw [hc] at htk
      by_cases hcc : c = 34 ∨ c = 92
      · have hfin : Hid (acc ++ [92] ++ [c] = 34 :: esc (s.data.toList.take (p + 1))) := by
          unfold Hid; rw [htk, esc_snoc, escB_yes hcc, HA.out]; simp
        have hccase : (((c.toNat : Int) == 34) = true) ∨ (((c.toNat : Int) == 34) = false ∧ ((c.toNat : Int) == 92) = true) := by
          rcases hcc with rfl | rfl
          · exact .inl rfl
          · exact .inr ⟨rfl, rfl⟩
        clear htk hcc
        rcases hccase with hc1 | ⟨hc1, hc2⟩
        · have hx := hc1
          clear hx
          have hown : wr.ownsRow w.heap.size 5 1 _ acc.length (Lib.byteCells acc) := HOWN.out
          go_wp2_with (at_builtin; refine wpList_append_own _ rfl _ _ 40 rfl w.heap.size 5 i0 (.int .u8 0) 1 1 Tryd.underlying40 hi hz0 hz1 hz2 rfl (by decide) _ _ _ rfl (hown.alloc _) ⟨wr.heap.size, 0, none⟩ 1 1 [.int .u8 92] rfl rfl ?c1 ?c2 ?c3 ?c4 ?c5 ?_)
          case c1 =>
            intro j u hj
            match j, hj with
            | 0, hj => simp at hj; subst hj; simp [Addr.add]
          case c2 => intro u hu; simp at hu; subst hu; rfl
          case c3 => unfold maxLen; omega
          case c4 => omega
          case c5 => simp; omega
          intro v' w2 hown' hgrow _
          have HB2 := Lib.hid ((hbw.alloc hsz _).grown hgrow (by simp; omega) (fun k hk => HOWN.out.ge k hk))
          have HOWN' : Hid (OwnB w.heap.size w2 v' (acc ++ [92])) := own_snoc (c := 92) hown'
          have hal' : (acc ++ [92]).length ≤ acc.length + 1 := by simp
          have hsz2 : w.heap.size ≤ w2.heap.size := by have := hgrow.size; simp at this; omega
          clear hown' hgrow hown
          obtain ⟨acc', hacc'⟩ : ∃ a, acc ++ [92] = a := ⟨_, rfl⟩
          rw [hacc'] at HOWN' hal' hfin
          clear hacc'
          have hown : w2.ownsRow w.heap.size 5 1 _ acc'.length (Lib.byteCells acc') := HOWN'.out
          go_wp2_with (at_builtin; refine wpList_append_own _ rfl _ _ 40 rfl w.heap.size 5 i0 (.int .u8 0) 1 1 Tryd.underlying40 hi hz0 hz1 hz2 rfl (by decide) _ _ _ rfl (hown.alloc _) ⟨w2.heap.size, 0, none⟩ 1 1 [.int .u8 c.toNat] rfl rfl ?d1 ?d2 ?d3 ?d4 ?d5 ?_)
          case d1 =>
            intro j u hj
            match j, hj with
            | 0, hj => simp at hj; subst hj; simp [Addr.add]
          case d2 => intro u hu; simp at hu; subst hu; rfl
          case d3 => unfold maxLen; omega
          case d4 => omega
          case d5 => simp; omega
          intro v'' w3 hown' hgrow _
          have HB3 := Lib.hid ((HB2.out.alloc hsz2 _).grown hgrow (by simp; omega) (fun k hk => HOWN'.out.ge k hk))
          have HO3 := Lib.hid (own_snoc hown')
          have hsz3 : w.heap.size ≤ w3.heap.size := by have := hgrow.size; simp at this; omega
          clear hown' hgrow hown
          go_wp2
          go_roundw
          case rel => exact ⟨p + 1, acc' ++ [c], by go_num, by omega, by simp; omega, HO3, HB3.out, hsz3, hfin⟩
          case measure => simp [intOf]; omega
        · have hx := hc1
          clear hx
          have hown : wr.ownsRow w.heap.size 5 1 _ acc.length (Lib.byteCells acc) := HOWN.out
          go_wp2_with (at_builtin; refine wpList_append_own _ rfl _ _ 40 rfl w.heap.size 5 i0 (.int .u8 0) 1 1 Tryd.underlying40 hi hz0 hz1 hz2 rfl (by decide) _ _ _ rfl (hown.alloc _) ⟨wr.heap.size, 0, none⟩ 1 1 [.int .u8 92] rfl rfl ?c1 ?c2 ?c3 ?c4 ?c5 ?_)
          case c1 =>
            intro j u hj
            match j, hj with
            | 0, hj => simp at hj; subst hj; simp [Addr.add]
          case c2 => intro u hu; simp at hu; subst hu; rfl
          case c3 => unfold maxLen; omega
          case c4 => omega
          case c5 => simp; omega
          intro v' w2 hown' hgrow _
          have HB2 := Lib.hid ((hbw.alloc hsz _).grown hgrow (by simp; omega) (fun k hk => HOWN.out.ge k hk))
          have HOWN' : Hid (OwnB w.heap.size w2 v' (acc ++ [92])) := own_snoc (c := 92) hown'
          have hal' : (acc ++ [92]).length ≤ acc.length + 1 := by simp
          have hsz2 : w.heap.size ≤ w2.heap.size := by have := hgrow.size; simp at this; omega
          clear hown' hgrow hown
          obtain ⟨acc', hacc'⟩ : ∃ a, acc ++ [92] = a := ⟨_, rfl⟩
          rw [hacc'] at HOWN' hal' hfin
          clear hacc'
          have hown : w2.ownsRow w.heap.size 5 1 _ acc'.length (Lib.byteCells acc') := HOWN'.out
          go_wp2_with (at_builtin; refine wpList_append_own _ rfl _ _ 40 rfl w.heap.size 5 i0 (.int .u8 0) 1 1 Tryd.underlying40 hi hz0 hz1 hz2 rfl (by decide) _ _ _ rfl (hown.alloc _) ⟨w2.heap.size, 0, none⟩ 1 1 [.int .u8 c.toNat] rfl rfl ?d1 ?d2 ?d3 ?d4 ?d5 ?_)
          case d1 =>
            intro j u hj
            match j, hj with
            | 0, hj => simp at hj; subst hj; simp [Addr.add]
          case d2 => intro u hu; simp at hu; subst hu; rfl
          case d3 => unfold maxLen; omega
          case d4 => omega
          case d5 => simp; omega
          intro v'' w3 hown' hgrow _
          have HB3 := Lib.hid ((HB2.out.alloc hsz2 _).grown hgrow (by simp; omega) (fun k hk => HOWN'.out.ge k hk))
          have HO3 := Lib.hid (own_snoc hown')
          have hsz3 : w.heap.size ≤ w3.heap.size := by have := hgrow.size; simp at this; omega
          clear hown' hgrow hown
          go_wp2
          go_roundw
          case rel => exact ⟨p + 1, acc' ++ [c], by go_num, by omega, by simp; omega, HO3, HB3.out, hsz3, hfin⟩
          case measure => simp [intOf]; omega
      · have hfin : Hid (acc ++ [c] = 34 :: esc (s.data.toList.take (p + 1))) := by
          unfold Hid; rw [htk, esc_snoc, escB_no hcc, HA.out]; simp
        have hc1 : ((c.toNat : Int) == 34) = false := by
          rw [beq_eq_false_iff_ne]; intro e; exact hcc (.inl (u8eq (by have : (34 : UInt8).toNat = 34 := rfl; omega)))
        have hc2 : ((c.toNat : Int) == 92) = false := by
          rw [beq_eq_false_iff_ne]; intro e; exact hcc (.inr (u8eq (by have : (92 : UInt8).toNat = 92 := rfl; omega)))
        clear htk hcc
        have hown : wr.ownsRow w.heap.size 5 1 _ acc.length (Lib.byteCells acc) := HOWN.out
        go_wp2_with (at_builtin; refine wpList_append_own _ rfl _ _ 40 rfl w.heap.size 5 i0 (.int .u8 0) 1 1 Tryd.underlying40 hi hz0 hz1 hz2 rfl (by decide) _ _ _ rfl (hown.alloc _) ⟨wr.heap.size, 0, none⟩ 1 1 [.int .u8 c.toNat] rfl rfl ?c1 ?c2 ?c3 ?c4 ?c5 ?_)
        case c1 =>
          intro j u hj
          match j, hj with
          | 0, hj => simp at hj; subst hj; simp [Addr.add]
        case c2 => intro u hu; simp at hu; subst hu; rfl
        case c3 => unfold maxLen; omega
        case c4 => omega
        case c5 => simp; omega
        intro v' w2 hown' hgrow _
        have HB2 := Lib.hid ((hbw.alloc hsz _).grown hgrow (by simp; omega) (fun k hk => HOWN.out.ge k hk))
        have HO2 := Lib.hid (own_snoc hown')
        have hsz2 : w.heap.size ≤ w2.heap.size := by have := hgrow.size; simp at this; omega
        clear hown' hgrow hown
        go_wp2
        go_roundw
        case rel => exact ⟨p + 1, acc ++ [c], by go_num, by omega, by simp; omega, HO2, HB2.out, hsz2, hfin⟩
        case measure => simp [intOf]; omega
    · obtain rfl : p = s.size := by omega
      have hfin : Hid ((⟨(acc ++ [34]).toArray⟩ : ByteArray) = Q) := by
        unfold Hid; rw [← HQ.out, HA.out, List.take_of_length_le (by rw [← Lib.size_eq]; exact Nat.le_refl _)]; rfl
      clear HA
      have hown : wr.ownsRow w.heap.size 5 1 _ acc.length (Lib.byteCells acc) := HOWN.out
      go_wp2_with (at_builtin; refine wpList_append_own _ rfl _ _ 40 rfl w.heap.size 5 i0 (.int .u8 0) 1 1 Tryd.underlying40 hi hz0 hz1 hz2 rfl (by decide) _ _ _ rfl (hown.alloc _) ⟨wr.heap.size, 0, none⟩ 1 1 [.int .u8 34] rfl rfl ?c1 ?c2 ?c3 ?c4 ?c5 ?_)
      case c1 =>
        intro j u hj
        match j, hj with
        | 0, hj => simp at hj; subst hj; simp [Addr.add]
      case c2 => intro u hu; simp at hu; subst hu; rfl
      case c3 => unfold maxLen; omega
      case c4 => omega
      case c5 => simp; omega
      intro v' w2 hown' hgrow _
      have HB2 := Lib.hid ((hbw.alloc hsz _).grown hgrow (by simp; omega) (fun k hk => HOWN.out.ge k hk))
      have HO2 : Hid (OwnB w.heap.size w2 v' (acc ++ [34])) := own_snoc (c := 34) hown'
      have hcv := HO2.out.conv
      clear hown' hgrow hown
      go_wp2
      go_ret2
      exact ⟨ret2_str hfin.out, HB2.out⟩
set_option maxRecDepth 100000 in
set_option maxHeartbeats 400000 in
theorem rquote_no (s : ByteArray) (w : World) (hs : s.size ≤ 1000000) (h : NoTag s.data.toList) :
    Calls Tryd.prog 15 #[.string s] w fun e w' => e = .returned (.tuple #[.string ⟨#[]⟩, .int .i64 16]) ∧ Below w.heap.size w w' := by
  have HN := Lib.hid h
  clear h
  go_enter Tryd.func15, Tryd.ntmps15
  go_wp2_with fail
  refine (rcheck_no s _ hs HN.out).mono ?_
  rintro e w1 ⟨rfl, hb1⟩
  go_wp2
  go_ret2
  exact ⟨rfl, hb1⟩
end Go.Proofs.YtmgkdklpahggjaaDoor
