/- The contracts of tags.unwrap and tags.Unquote: how a quoted tag is read. -/
import Derived.Test.YtmgkdklpahggjaaDoorCe
namespace Go.Proofs.YtmgkdklpahggjaaDoor
open Go.RowKit

/-- What is read of a text: nothing, or the tag and how many bytes. -/
def read (l : List UInt8) : Option (List UInt8 × Nat) :=
  match l with
  | [] => none
  | b :: t => if b = 34 then (scan t).map fun p => (p.1, p.2 + 1) else none
theorem read_quote (t : List UInt8) : read (34 :: t) = (scan t).map fun p => (p.1, p.2 + 1) := by simp [read]
theorem read_other (b : UInt8) (t : List UInt8) (h : b ≠ 34) : read (b :: t) = none := by simp [read, h]

def UwPost (l : List UInt8) (n : Nat) (w : World) (e : Ending) (w' : World) : Prop :=
  Below n w w' ∧ ((∃ x k, read l = some (x, k) ∧ e = .returned (.tuple #[.string ⟨x.toArray⟩, .int .i64 k, .int .i64 0])) ∨ (read l = none ∧ e = .returned (.tuple #[.string ⟨#[]⟩, .int .i64 0, .int .i64 9])))

/-- How far the reading has come: the place, what is read so far, and the rest decides. -/
def UwRel (s : ByteArray) (b : Nat) (w : World) (v : Value) (wr : World) : Prop :=
  ∃ (p : Nat) (acc : List UInt8), v = .int .i64 p ∧ 1 ≤ p ∧ p ≤ s.size ∧ acc.length ≤ p ∧ Lib.IsBuilder 55 5 b b (Lib.byteCells acc) wr ∧ Below b w wr ∧
    Hid (read s.data.toList = (scan (s.data.toList.drop p)).map fun q => (acc ++ q.1, q.2 + p))

theorem step_map (o : Option (List UInt8 × Nat)) (acc : List UInt8) (x : UInt8) (p k : Nat) : ((o.map fun q => (x :: q.1, q.2 + k)).map fun q => (acc ++ q.1, q.2 + p)) = o.map fun q => ((acc ++ [x]) ++ q.1, q.2 + (p + k)) := by
  cases o with
  | none => rfl
  | some q => simp only [Option.map_some, List.append_assoc, List.cons_append, List.nil_append]; congr 2; omega
theorem drop_get (s : ByteArray) (p : Nat) (h : p < s.size) : s.data.toList.drop p = s[p] :: s.data.toList.drop (p + 1) := by
  rw [List.drop_eq_getElem_cons (by rw [← Lib.size_eq]; exact h)]
  rfl

theorem nonempty_list (s : ByteArray) (h0 : 0 < s.size) : ¬ s.toList = [] ∧ s.toList.isEmpty = false := by
  have hq : ¬ s.toList = [] := by
    rw [ByteArray.toList_eq]
    intro e
    rw [Lib.size_eq, e] at h0
    simp at h0
  exact ⟨hq, by simpa using hq⟩
set_option maxRecDepth 100000 in
set_option maxHeartbeats 400000 in
theorem unwrap_empty (w : World) :
    Calls Tryd.prog 35 #[.string ⟨#[]⟩] w (UwPost [] w.heap.size w) := by
  go_enter Tryd.func35, Tryd.ntmps35
  go_wp2
  go_ret3
  exact ⟨Below.refl _ _, .inr ⟨rfl, rfl⟩⟩
set_option maxRecDepth 100000 in
set_option maxHeartbeats 400000 in
theorem unwrap_other (s : ByteArray) (w : World) (hs : s.size ≤ 140737488351232) (h0 : 0 < s.size) (h : s[0] ≠ 34) :
    Calls Tryd.prog 35 #[.string s] w (UwPost s.data.toList w.heap.size w) := by
  have hd := drop_get s 0 h0
  rw [List.drop_zero] at hd
  have hr : read s.data.toList = none := by rw [hd]; exact read_other _ _ h
  have HR := Lib.hid hr
  clear hr hd
  have hne : ((s[0].toNat : Int) != 34) = true := by
    rw [bne_iff_ne]; intro e; exact h (u8eq (by have : (34 : UInt8).toNat = 34 := rfl; omega))
  obtain ⟨hq, hqe⟩ := nonempty_list s h0
  clear h
  go_enter Tryd.func35, Tryd.ntmps35
  go_wp2
  go_ret3
  exact ⟨Below.refl _ _, .inr ⟨HR.out, rfl⟩⟩

set_option maxRecDepth 100000 in
set_option maxHeartbeats 2000000 in
theorem unwrap_quote (s : ByteArray) (w : World) (hs : s.size ≤ 140737488351232) (h0 : 0 < s.size) (h : s[0] = 34) :
    Calls Tryd.prog 35 #[.string s] w (UwPost s.data.toList w.heap.size w) := by
  have hd := drop_get s 0 h0
  rw [List.drop_zero, h] at hd
  have hr : read s.data.toList = (scan (s.data.toList.drop 1)).map fun q => ([] ++ q.1, q.2 + 1) := by rw [hd]; rw [read_quote]; rfl
  have HR := Lib.hid hr
  have hne : ((s[0].toNat : Int) != 34) = false := by rw [h]; rfl
  obtain ⟨hq, hqe⟩ := nonempty_list s h0
  have HIB := Lib.hid (Lib.fresh_isBuilder 55 5 w)
  clear hr hd h
  go_enter Tryd.func35, Tryd.ntmps35
  go_wp2_with fail
  go_loopw [6] (fun v wr => UwRel s w.heap.size w v wr) (fun v _ => s.size - (intOf v).toNat)
  case atStart => exact ⟨1, [], rfl, Nat.le_refl _, h0, by simp, HIB.out, (Below.refl _ _).alloc (Nat.le_refl _) _, HR.out⟩
  case round =>
    clear HR hne hq hqe HIB
    obtain ⟨p, acc, rfl, hp1, hp, hal, hib, hbw, HS⟩ := hrel
    have HIB := Lib.hid hib
    have hsz : w.heap.size ≤ wr.heap.size := hbw.size
    clear hib
    by_cases hlt : p < s.size
    · have hdp := drop_get s p hlt
      obtain ⟨c, hc⟩ : ∃ c, s[p] = c := ⟨_, rfl⟩
      rw [hc] at hdp
      by_cases h34 : c = 34
      · subst h34
        have hres : read s.data.toList = some (acc, p + 1) := by rw [HS.out, hdp, scan_quote]; simp; omega
        have HRES := Lib.hid hres
        clear hdp hres
        go_wp2_with fail
        refine (Tryd.Builder_String_any w.heap.size w.heap.size acc _ HIB.out hsz).mono ?_
        rintro e w3 ⟨rfl, hb3⟩
        go_wp2
        go_ret3
        exact ⟨hbw.trans hb3, .inl ⟨acc, p + 1, HRES.out, by go_num⟩⟩
      have hn34 : ((c.toNat : Int) == 34) = false := by
        rw [beq_eq_false_iff_ne]; intro e; exact h34 (u8eq (by have : (34 : UInt8).toNat = 34 := rfl; omega))
      by_cases h92 : c = 92
      · subst h92
        by_cases hlt2 : p + 1 < s.size
        · have hdp2 := drop_get s (p + 1) hlt2
          obtain ⟨d, hd⟩ : ∃ d, s[p + 1] = d := ⟨_, rfl⟩
          rw [hd] at hdp2
          rw [hdp2] at hdp
          have hpe : ((p : Int) + 1 == (s.size : Int)) = false := beq_eq_false_iff_ne.2 (by omega)
          by_cases hdd : d = 34 ∨ d = 92
          · have hres : read s.data.toList = (scan (s.data.toList.drop (p + 2))).map fun q => ((acc ++ [d]) ++ q.1, q.2 + (p + 2)) := by
              rw [HS.out, hdp, scan_back d _ hdd, step_map]
            have HRES := Lib.hid hres
            have hdcase : (((d.toNat : Int) != 34) = false) ∨ (((d.toNat : Int) != 34) = true ∧ ((d.toNat : Int) != 92) = false) := by
              rcases hdd with rfl | rfl
              · exact .inl rfl
              · exact .inr ⟨rfl, rfl⟩
            clear hdp hdp2 hres h34 hdd
            rcases hdcase with hd1 | ⟨hd1, hd2⟩
            all_goals
              go_wp2_with fail
              refine (Tryd.Builder_WriteByte w.heap.size w.heap.size _ d.toNat _ HIB.out (by rw [Lib.byteCells_length]; omega) hsz).mono ?_
              rintro e w3 ⟨rfl, hib3, hb3⟩
              go_wp2
              go_roundw
              case rel => exact ⟨p + 2, acc ++ [d], by go_num, by omega, by omega, by simp; omega, by rw [Lib.byteCells_append]; exact .inr hib3, hbw.trans hb3, HRES.out⟩
              case measure => simp [intOf]; omega
          · have hres : read s.data.toList = none := by
              rw [HS.out, hdp, scan_back_no d _ hdd]; rfl
            have HRES := Lib.hid hres
            have hd1 : ((d.toNat : Int) != 34) = true := by
              rw [bne_iff_ne]; intro e; exact hdd (.inl (u8eq (by have : (34 : UInt8).toNat = 34 := rfl; omega)))
            have hd2 : ((d.toNat : Int) != 92) = true := by
              rw [bne_iff_ne]; intro e; exact hdd (.inr (u8eq (by have : (92 : UInt8).toNat = 92 := rfl; omega)))
            clear hdp hdp2 hres h34 hdd
            go_wp2
            go_ret3
            exact ⟨hbw, .inr ⟨HRES.out, rfl⟩⟩
        · have hpe : p + 1 = s.size := by omega
          have hpz : ((p : Int) + 1 == (s.size : Int)) = true := by rw [beq_iff_eq]; omega
          have hres : read s.data.toList = none := by
            rw [HS.out, hdp, List.drop_eq_nil_of_le (by rw [← Lib.size_eq]; omega), scan_back_nil]; rfl
          have HRES := Lib.hid hres
          clear hdp hres h34 hpe
          go_wp2
          go_ret3
          exact ⟨hbw, .inr ⟨HRES.out, rfl⟩⟩
      · have hn92 : ((c.toNat : Int) == 92) = false := by
          rw [beq_eq_false_iff_ne]; intro e; exact h92 (u8eq (by have : (92 : UInt8).toNat = 92 := rfl; omega))
        have hres : read s.data.toList = (scan (s.data.toList.drop (p + 1))).map fun q => ((acc ++ [c]) ++ q.1, q.2 + (p + 1)) := by
          rw [HS.out, hdp, scan_other c _ h34 h92, step_map]
        have HRES := Lib.hid hres
        clear hdp hres h34 h92
        go_wp2_with fail
        refine (Tryd.Builder_WriteByte w.heap.size w.heap.size _ c.toNat _ HIB.out (by rw [Lib.byteCells_length]; omega) hsz).mono ?_
        rintro e w3 ⟨rfl, hib3, hb3⟩
        go_wp2
        go_roundw
        case rel => exact ⟨p + 1, acc ++ [c], by go_num, by omega, by omega, by simp; omega, by rw [Lib.byteCells_append]; exact .inr hib3, hbw.trans hb3, HRES.out⟩
        case measure => simp [intOf]; omega
    · have hres : read s.data.toList = none := by
        rw [HS.out, List.drop_eq_nil_of_le (by rw [← Lib.size_eq]; omega)]; rfl
      have HRES := Lib.hid hres
      clear hres
      go_wp2
      go_ret3
      exact ⟨hbw, .inr ⟨HRES.out, rfl⟩⟩

theorem unwrap_any (s : ByteArray) (w : World) (hs : s.size ≤ 140737488351232) :
    Calls Tryd.prog 35 #[.string s] w (UwPost s.data.toList w.heap.size w) := by
  by_cases h0 : 0 < s.size
  · by_cases h : s[0] = 34
    · exact unwrap_quote s w hs h0 h
    · exact unwrap_other s w hs h0 h
  · have e : s = ⟨#[]⟩ := by
      apply ByteArray.ext
      exact Array.eq_empty_of_size_eq_zero (by have : s.data.size = s.size := rfl; omega)
    subst e
    exact unwrap_empty w

set_option maxRecDepth 100000 in
set_option maxHeartbeats 400000 in
theorem unquote_form (s : ByteArray) (w : World) (hs : s.size ≤ 140737488351232) (h : read s.data.toList = none) :
    Calls Tryd.prog 22 #[.string s] w fun e w' => e = .returned (.tuple #[.string ⟨#[]⟩, .int .i64 0, .int .i64 9]) ∧ Below w.heap.size w w' := by
  have HH := Lib.hid h
  clear h
  go_enter Tryd.func22, Tryd.ntmps22
  go_wp2_with fail
  refine (unwrap_any s _ hs).mono ?_
  rintro e w1 ⟨hb1, ⟨x, k, hr, rfl⟩ | ⟨hr, rfl⟩⟩
  · exact absurd (HH.out.symm.trans hr) (by simp)
  · clear hr
    go_wp2
    go_ret3
    exact ⟨rfl, hb1⟩
theorem read_len {l x : List UInt8} {k : Nat} (h : read l = some (x, k)) : k ≤ l.length ∧ x.length ≤ l.length ∧ l.take k = quo x ∧ k = (quo x).length := by
  cases l with
  | nil => cases h
  | cons b t =>
    by_cases hb : b = 34
    · subst hb
      rw [read_quote] at h
      obtain ⟨⟨y, n⟩, hy, e⟩ := Option.map_eq_some_iff.1 h
      cases e
      obtain ⟨a1, a2, a3⟩ := scan_stands t.length t (Nat.le_refl _) y n hy
      have := esc_length y
      refine ⟨by simp; omega, by simp; omega, ?_, ?_⟩
      · rw [List.take_succ_cons, a3]; rfl
      · rw [a1]; simp [quo]
    · rw [read_other b t hb] at h; cases h
set_option maxRecDepth 100000 in
set_option maxHeartbeats 400000 in
theorem unquote_tag (s : ByteArray) (x : List UInt8) (k : Nat) (rs : List Nat) (w : World) (he : Env w) (hs : s.size ≤ 140737488351232) (h : read s.data.toList = some (x, k)) (ht : Tag x rs) :
    Calls Tryd.prog 22 #[.string s] w fun e w' => e = .returned (.tuple #[.string ⟨x.toArray⟩, .int .i64 k, .int .i64 0]) ∧ Below w.heap.size w w' := by
  have HH := Lib.hid h
  have HT := Lib.hid ht
  clear h ht
  go_enter Tryd.func22, Tryd.ntmps22
  go_wp2_with fail
  refine (unwrap_any s _ hs).mono ?_
  rintro e w1 ⟨hb1, ⟨y, j, hr, rfl⟩ | ⟨hr, rfl⟩⟩
  · obtain ⟨rfl, rfl⟩ : x = y ∧ k = j := by
      have := HH.out.symm.trans hr
      simpa using this
    clear hr
    go_wp2_with fail
    refine (check_tag _ rs _ (he.below hb1) HT.out).mono ?_
    rintro e w2 ⟨rfl, hb2⟩
    go_wp2
    go_ret3
    exact ⟨rfl, bel2 hb1 hb2⟩
  · exact absurd (HH.out.symm.trans hr) (by simp)
set_option maxRecDepth 100000 in
set_option maxHeartbeats 400000 in
theorem unquote_no (s : ByteArray) (x : List UInt8) (k : Nat) (w : World) (he : Env w) (hs : s.size ≤ 140737488351232) (h : read s.data.toList = some (x, k)) (ht : NoTag x) :
    Calls Tryd.prog 22 #[.string s] w fun e w' => e = .returned (.tuple #[.string ⟨#[]⟩, .int .i64 0, .int .i64 16]) ∧ Below w.heap.size w w' := by
  have HH := Lib.hid h
  have HT := Lib.hid ht
  have hx : x.length ≤ 140737488351232 := by have := (read_len h).2.1; rw [← Lib.size_eq] at this; omega
  clear h ht
  go_enter Tryd.func22, Tryd.ntmps22
  go_wp2_with fail
  refine (unwrap_any s _ hs).mono ?_
  rintro e w1 ⟨hb1, ⟨y, j, hr, rfl⟩ | ⟨hr, rfl⟩⟩
  · obtain ⟨rfl, rfl⟩ : x = y ∧ k = j := by
      have := HH.out.symm.trans hr
      simpa using this
    clear hr
    go_wp2_with fail
    refine (check_no _ _ (he.below hb1) (by rw [arr_size]; exact hx) HT.out).mono ?_
    rintro e w2 ⟨rfl, hb2⟩
    go_wp2
    go_ret3
    exact ⟨rfl, bel2 hb1 hb2⟩
  · exact absurd (HH.out.symm.trans hr) (by simp)
end Go.Proofs.YtmgkdklpahggjaaDoor
