/- The contracts of the document's Quote and Unquote. -/
import Derived.Test.YtmgkdklpahggjaaDoorRf
import Derived.Test.YtmgkdklpahggjaaDoorCf
import Derived.Laws.BytesArg
namespace Go.Proofs.YtmgkdklpahggjaaDoor
open Go.RowKit

/-- v is a slice of the call's own that holds the bytes l. -/
def OwnB (n : Nat) (w : World) (v : Value) (l : List UInt8) : Prop := w.ownsRow n 5 1 v l.length (Lib.byteCells l)
theorem info_byte : (Tryd.prog.info? 5).map (fun i => (i.zero, i.size, i.bytes)) = some (some (.int .u8 0), 1, 1) := by kernel_rfl

theorem OwnB.below {n : Nat} {w w' : World} {v : Value} {l : List UInt8} (h : OwnB n w v l) (hb : Below w.heap.size w w') : OwnB n w' v l := by
  refine ⟨h.1, ?_⟩
  rcases h.2 with h0 | ⟨g, cap, cur, hv, hg, hh, rest⟩
  · exact .inl h0
  · have hlt : g < w.heap.size := (Array.getElem?_eq_some_iff.1 hh).1
    exact .inr ⟨g, cap, cur, hv, hg, (hb.block g hlt).trans hh, rest⟩
theorem OwnB.conv {n : Nat} {w : World} {v : Value} {l : List UInt8} (h : OwnB n w v l) : (convert 40 9 v).run Tryd.prog w = .ok (.string ⟨l.toArray⟩) w := by
  rcases h.2 with ⟨hv, h0⟩ | ⟨g, cap, cur, hv, _⟩
  · rw [List.eq_nil_of_length_eq_zero h0, hv]
    exact run_convert_bytes_nil (P := Tryd.prog) w 40 5 Tryd.underlying40 Tryd.underlying5 0 0 9 Tryd.underlying9
  · have hc := World.ownsRow.cells h (g := g) (by rw [hv]; rfl)
    subst hv
    refine run_convert_bytes_back (P := Tryd.prog) w 40 9 5 ⟨g, 0, none⟩ cap l Tryd.underlying40 Tryd.underlying5 Tryd.underlying9 fun j hj => ?_
    exact hc j _ (by simp [Lib.byteCells, List.getElem?_eq_getElem hj])
theorem OwnB.ge {n : Nat} {w : World} {v : Value} {l : List UInt8} (h : OwnB n w v l) : ∀ k, v.ownBlock = some k → n ≤ k := fun k hk => (World.ownsRow.lt h k hk).1
theorem own_snoc {n : Nat} {w : World} {v : Value} {l : List UInt8} {c : UInt8} (h : w.ownsRow n 5 1 v (l.length + 1) (Lib.byteCells l ++ [.int .u8 c.toNat])) : OwnB n w v (l ++ [c]) := by
  unfold OwnB
  rw [List.length_append, Lib.byteCells_append]
  exact h

def RuRel (s : ByteArray) (n : Nat) (w : World) (v i : Value) (wr : World) : Prop :=
  ∃ (p : Nat) (acc : List UInt8), i = .int .i64 p ∧ 1 ≤ p ∧ p ≤ s.size ∧ acc.length ≤ p ∧ Hid (OwnB n wr v acc) ∧ Below n w wr ∧
    Hid (read s.data.toList = (scan (s.data.toList.drop p)).map fun q => (acc ++ q.1, q.2 + p))

def RuPost (l : List UInt8) (n : Nat) (w : World) (e : Ending) (w' : World) : Prop :=
  Below n w w' ∧ ((read l = none ∧ e = .returned (.tuple #[.string ⟨#[]⟩, .int .i64 0, .int .i64 9])) ∨
    (∃ x k, read l = some (x, k) ∧ (((∃ rs, Tag x rs) ∧ e = .returned (.tuple #[.string ⟨x.toArray⟩, .int .i64 k, .int .i64 0])) ∨ (NoTag x ∧ e = .returned (.tuple #[.string ⟨#[]⟩, .int .i64 0, .int .i64 16])))))

set_option maxRecDepth 100000 in
set_option maxHeartbeats 4000000 in
theorem runq_quote (s : ByteArray) (w : World) (hs : s.size ≤ 500) (h0 : 0 < s.size) (h : s[0] = 34) :
    Calls Tryd.prog 23 #[.string s] w (RuPost s.data.toList w.heap.size w) := by
  obtain ⟨i0, hi, hz0, hz1, hz2⟩ := info_parts info_byte
  have hd := drop_get s 0 h0
  rw [List.drop_zero, h] at hd
  have hr : read s.data.toList = (scan (s.data.toList.drop 1)).map fun q => ([] ++ q.1, q.2 + 1) := by rw [hd]; rw [read_quote]; rfl
  have HR := Lib.hid hr
  have hne : ((s[0].toNat : Int) != 34) = false := by rw [h]; rfl
  have hz : ((s.size : Int) == 0) = false := beq_eq_false_iff_ne.2 (by omega)
  clear hr hd h
  go_enter Tryd.func23, Tryd.ntmps23
  go_wp2
  go_loopw [5, 6] (fun v i wr => RuRel s w.heap.size w v i wr) (fun _ i _ => s.size - (intOf i).toNat)
  case atStart => exact ⟨1, [], rfl, Nat.le_refl _, h0, by simp, World.ownsRow_nil _ _ _ _, Below.refl _ _, HR.out⟩
  case round =>
    clear HR hne hz
    obtain ⟨p, acc, rfl, hp1, hp, hal, HOWN, hbw, HS⟩ := hrel
    have hsz : w.heap.size ≤ wr.heap.size := hbw.size
    by_cases hlt : p < s.size
    · have hdp := drop_get s p hlt
      obtain ⟨c, hc⟩ : ∃ c, s[p] = c := ⟨_, rfl⟩
      rw [hc] at hdp
      by_cases h34 : c = 34
      · subst h34
        have hres : read s.data.toList = some (acc, p + 1) := by rw [HS.out, hdp, scan_quote]; simp; omega
        have HRES := Lib.hid hres
        have hcv := HOWN.out.conv
        clear hdp hres
        rcases tag_dec acc with ⟨rs, ht⟩ | ht
        · have HT := Lib.hid ht
          clear ht
          go_wp2_with fail
          refine (rcheck_tag _ rs _ HT.out).mono ?_
          rintro e w3 ⟨rfl, hb3⟩
          have hcv3 := (HOWN.out.below hb3).conv
          clear hcv
          have B3 := Lib.hid (hbw.trans (hb3.mono hsz))
          clear hb3
          go_wp2
          go_ret3
          exact ⟨B3.out, .inr ⟨acc, p + 1, HRES.out, .inl ⟨⟨rs, HT.out⟩, by go_num⟩⟩⟩
        · have HT := Lib.hid ht
          clear ht
          go_wp2_with fail
          refine (rcheck_no _ _ (by rw [arr_size]; omega) HT.out).mono ?_
          rintro e w3 ⟨rfl, hb3⟩
          clear hcv
          have B3 := Lib.hid (hbw.trans (hb3.mono hsz))
          clear hb3
          go_wp2
          go_ret3
          exact ⟨B3.out, .inr ⟨acc, p + 1, HRES.out, .inr ⟨HT.out, rfl⟩⟩⟩
      have hn34 : ((c.toNat : Int) == 34) = false := by
        rw [beq_eq_false_iff_ne]; intro e; exact h34 (u8eq (by have : (34 : UInt8).toNat = 34 := rfl; omega))
      by_cases h92 : c = 92
      · subst h92
        by_cases hlt2 : p + 1 < s.size
        · have hdp2 := drop_get s (p + 1) hlt2
          obtain ⟨d, hd⟩ : ∃ d, s[p + 1] = d := ⟨_, rfl⟩
          rw [hd] at hdp2
          rw [hdp2] at hdp
          by_cases hdd : d = 34 ∨ d = 92
          · have hres : read s.data.toList = (scan (s.data.toList.drop (p + 2))).map fun q => ((acc ++ [d]) ++ q.1, q.2 + (p + 2)) := by
              rw [HS.out, hdp, scan_back d _ hdd, step_map]
            have HRES := Lib.hid hres
            have hdcase : (((d.toNat : Int) != 34) = false) ∨ (((d.toNat : Int) != 34) = true ∧ ((d.toNat : Int) != 92) = false) := by
              rcases hdd with rfl | rfl
              · exact .inl rfl
              · exact .inr ⟨rfl, rfl⟩
            clear hdp hdp2 hres h34 hdd
            rcases hdcase with hd1 | ⟨hd1, hd2⟩
            · have hx := hd1
              clear hx
              have hown : wr.ownsRow w.heap.size 5 1 _ acc.length (Lib.byteCells acc) := HOWN.out
              go_wp2_with (at_builtin; refine wpList_append_own _ rfl _ _ 40 rfl w.heap.size 5 i0 (.int .u8 0) 1 1 Tryd.underlying40 hi hz0 hz1 hz2 rfl (by decide) _ _ _ rfl (hown.alloc _) ⟨wr.heap.size, 0, none⟩ 1 1 [.int .u8 d.toNat] rfl rfl ?c1 ?c2 ?c3 ?c4 ?c5 ?_)
              case c1 =>
                intro j u hj
                match j, hj with
                | 0, hj => simp at hj; subst hj; simp [Addr.add]
              case c2 => intro u hu; simp at hu; subst hu; rfl
              case c3 => unfold maxLen; omega
              case c4 => omega
              case c5 => simp; omega
              intro v' w2 hown' hgrow _
              have HB2 := Lib.hid ((hbw.alloc hsz _).grown hgrow (by simp; omega) (fun k hk => HOWN.out.ge k hk))
              have HO2 := Lib.hid (own_snoc hown')
              clear hown' hgrow hown
              go_wp2
              go_roundw
              case rel => exact ⟨p + 2, acc ++ [d], by go_num, by omega, by omega, by simp; omega, HO2, HB2.out, HRES.out⟩
              case measure => simp [intOf]; omega
            · have hx := hd1
              clear hx
              have hown : wr.ownsRow w.heap.size 5 1 _ acc.length (Lib.byteCells acc) := HOWN.out
              go_wp2_with (at_builtin; refine wpList_append_own _ rfl _ _ 40 rfl w.heap.size 5 i0 (.int .u8 0) 1 1 Tryd.underlying40 hi hz0 hz1 hz2 rfl (by decide) _ _ _ rfl (hown.alloc _) ⟨wr.heap.size, 0, none⟩ 1 1 [.int .u8 d.toNat] rfl rfl ?c1 ?c2 ?c3 ?c4 ?c5 ?_)
              case c1 =>
                intro j u hj
                match j, hj with
                | 0, hj => simp at hj; subst hj; simp [Addr.add]
              case c2 => intro u hu; simp at hu; subst hu; rfl
              case c3 => unfold maxLen; omega
              case c4 => omega
              case c5 => simp; omega
              intro v' w2 hown' hgrow _
              have HB2 := Lib.hid ((hbw.alloc hsz _).grown hgrow (by simp; omega) (fun k hk => HOWN.out.ge k hk))
              have HO2 := Lib.hid (own_snoc hown')
              clear hown' hgrow hown
              go_wp2
              go_roundw
              case rel => exact ⟨p + 2, acc ++ [d], by go_num, by omega, by omega, by simp; omega, HO2, HB2.out, HRES.out⟩
              case measure => simp [intOf]; omega
          · have hres : read s.data.toList = none := by
              rw [HS.out, hdp, scan_back_no d _ hdd]; rfl
            have HRES := Lib.hid hres
            have hd1 : ((d.toNat : Int) != 34) = true := by
              rw [bne_iff_ne]; intro e; exact hdd (.inl (u8eq (by have : (34 : UInt8).toNat = 34 := rfl; omega)))
            have hd2 : ((d.toNat : Int) != 92) = true := by
              rw [bne_iff_ne]; intro e; exact hdd (.inr (u8eq (by have : (92 : UInt8).toNat = 92 := rfl; omega)))
            clear hdp hdp2 hres h34 hdd
            go_wp2
            go_ret3
            exact ⟨hbw, .inl ⟨HRES.out, rfl⟩⟩
        · have hres : read s.data.toList = none := by
            rw [HS.out, hdp, List.drop_eq_nil_of_le (by rw [← Lib.size_eq]; omega), scan_back_nil]; rfl
          have HRES := Lib.hid hres
          clear hdp hres h34
          go_wp2
          go_ret3
          exact ⟨hbw, .inl ⟨HRES.out, rfl⟩⟩
      · have hn92 : ((c.toNat : Int) == 92) = false := by
          rw [beq_eq_false_iff_ne]; intro e; exact h92 (u8eq (by have : (92 : UInt8).toNat = 92 := rfl; omega))
        have hres : read s.data.toList = (scan (s.data.toList.drop (p + 1))).map fun q => ((acc ++ [c]) ++ q.1, q.2 + (p + 1)) := by
          rw [HS.out, hdp, scan_other c _ h34 h92, step_map]
        have HRES := Lib.hid hres
        clear hdp hres h34 h92
        have hown : wr.ownsRow w.heap.size 5 1 _ acc.length (Lib.byteCells acc) := HOWN.out
        go_wp2_with (at_builtin; refine wpList_append_own _ rfl _ _ 40 rfl w.heap.size 5 i0 (.int .u8 0) 1 1 Tryd.underlying40 hi hz0 hz1 hz2 rfl (by decide) _ _ _ rfl (hown.alloc _) ⟨wr.heap.size, 0, none⟩ 1 1 [.int .u8 c.toNat] rfl rfl ?c1 ?c2 ?c3 ?c4 ?c5 ?_)
        case c1 =>
          intro j u hj
          match j, hj with
          | 0, hj => simp at hj; subst hj; simp [Addr.add]
        case c2 => intro u hu; simp at hu; subst hu; rfl
        case c3 => unfold maxLen; omega
        case c4 => omega
        case c5 => simp; omega
        intro v' w2 hown' hgrow _
        have HB2 := Lib.hid ((hbw.alloc hsz _).grown hgrow (by simp; omega) (fun k hk => HOWN.out.ge k hk))
        have HO2 := Lib.hid (own_snoc hown')
        clear hown' hgrow hown
        go_wp2
        go_roundw
        case rel => exact ⟨p + 1, acc ++ [c], by go_num, by omega, by omega, by simp; omega, HO2, HB2.out, HRES.out⟩
        case measure => simp [intOf]; omega
    · have hres : read s.data.toList = none := by
        rw [HS.out, List.drop_eq_nil_of_le (by rw [← Lib.size_eq]; omega)]; rfl
      have HRES := Lib.hid hres
      clear hres
      go_wp2
      go_ret3
      exact ⟨hbw, .inl ⟨HRES.out, rfl⟩⟩

set_option maxRecDepth 100000 in
set_option maxHeartbeats 1000000 in
theorem runq_other (s : ByteArray) (w : World) (hs : s.size ≤ 500) (h0 : 0 < s.size) (h : s[0] ≠ 34) :
    Calls Tryd.prog 23 #[.string s] w (RuPost s.data.toList w.heap.size w) := by
  have hd := drop_get s 0 h0
  rw [List.drop_zero] at hd
  have hr : read s.data.toList = none := by rw [hd]; exact read_other _ _ h
  have HR := Lib.hid hr
  clear hr hd
  have hne : ((s[0].toNat : Int) != 34) = true := by
    rw [bne_iff_ne]; intro e; exact h (u8eq (by have : (34 : UInt8).toNat = 34 := rfl; omega))
  have hz : ((s.size : Int) == 0) = false := beq_eq_false_iff_ne.2 (by omega)
  clear h
  go_enter Tryd.func23, Tryd.ntmps23
  go_wp2
  go_ret3
  exact ⟨Below.refl _ _, .inl ⟨HR.out, rfl⟩⟩
set_option maxRecDepth 100000 in
set_option maxHeartbeats 1000000 in
theorem runq_empty (w : World) :
    Calls Tryd.prog 23 #[.string ⟨#[]⟩] w (RuPost [] w.heap.size w) := by
  go_enter Tryd.func23, Tryd.ntmps23
  go_wp2
  go_ret3
  exact ⟨Below.refl _ _, .inl ⟨rfl, rfl⟩⟩
theorem runq_any (s : ByteArray) (w : World) (hs : s.size ≤ 500) :
    Calls Tryd.prog 23 #[.string s] w (RuPost s.data.toList w.heap.size w) := by
  by_cases h0 : 0 < s.size
  · by_cases h : s[0] = 34
    · exact runq_quote s w hs h0 h
    · exact runq_other s w hs h0 h
  · have e : s = ⟨#[]⟩ := by
      apply ByteArray.ext
      exact Array.eq_empty_of_size_eq_zero (by have : s.data.size = s.size := rfl; omega)
    subst e
    exact runq_empty w
end Go.Proofs.YtmgkdklpahggjaaDoor
