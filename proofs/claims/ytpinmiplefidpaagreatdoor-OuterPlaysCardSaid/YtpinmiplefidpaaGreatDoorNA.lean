/- The layer A, joined. -/
import Derived.Test.YtpinmiplefidpaaGreatDoorMA
namespace Go.Proofs.YtpinmiplefidpaaGreatDoor.AN
open Go.RowKit


/-! ### estrayref06.Source -/
set_option maxRecDepth 100000 in
theorem rnew_ok (w : World) : Calls Tryz.prog 60 #[] w fun e w' => e = .returned (.pointer (some ⟨w.heap.size, 0, none⟩)) ∧ SrcW 184 w' w.heap.size [] ∧ Below w.heap.size w w' := by
  go_enter Tryz.func60, Tryz.ntmps60
  go_wp2
  go_ret
  exact ⟨rfl, ⟨src_nil, _, _, Bk.new w _ _, Sl.nil _⟩, (Below.refl _ w).alloc (Nat.le_refl _) _⟩
set_option maxHeartbeats 1000000 in
set_option maxRecDepth 100000 in
theorem rnext_ok (b : Nat) (L : List Int) (w : World) (h : SrcW 184 w b L) : Calls Tryz.prog 68 #[.pointer (some ⟨b, 0, none⟩)] w fun e w' => e = .returned (.int .i64 (L.headD 1)) ∧ SrcW 184 w' b L.tail ∧ Kept (· = b) w w' := by
  obtain ⟨a, c, hc0, hc1, hf, hsl, hbk⟩ := h.cells
  have H := Lib.hid h
  have HB := Lib.hid hbk
  have HS := Lib.hid hsl
  cases L with
  | nil =>
    clear h hbk hsl
    go_enter Tryz.func68, Tryz.ntmps68
    go_wp2_with (go_at_call 110; refine (rvalid_yes _ _ hc0).mono ?_; rintro e w' ⟨rfl, rfl⟩)
    go_ret
    exact ⟨rfl, H.out, Kept.refl _ _⟩
  | cons x l =>
    obtain ⟨g, off, rfl, hg, hcell, _⟩ := hsl.cell (j := 0) (by simp)
    obtain ⟨_, hcap, _, _⟩ := hsl.cap
    simp only [List.getElem_cons_zero, Nat.add_zero] at hcell
    by_cases hc : c = 1
    · subst hc
      have hl : l = [] := List.eq_nil_of_length_eq_zero (by rw [List.length_cons] at hcap; omega)
      subst hl
      have hP : Hid (SrcW 184 (w.setCell ⟨b, 1, none⟩ (.slice (some ⟨g, off, none⟩) 0 0)) b []) := SrcW.put hbk (src_tail h.ok) (Sl.tail0 hsl) (by decide)
      have hK : Hid (Kept (· = b) w (w.setCell ⟨b, 1, none⟩ (.slice (some ⟨g, off, none⟩) 0 0))) := (Kept.refl (· = b) w).put1 1 _
      simp only [List.length_cons, List.length_nil, Nat.zero_add] at hc1 hcap
      clear h hbk hsl H HB HS
      go_enter Tryz.func68, Tryz.ntmps68
      go_wp2_with (go_at_call 110; refine (rvalid_yes _ _ hc0).mono ?_; rintro e w' ⟨rfl, rfl⟩)
      go_ret
      exact ⟨rfl, hP.out, hK.out⟩
    · have hP : Hid (SrcW 184 (w.setCell ⟨b, 1, none⟩ (.slice (some ⟨g, off + 1, none⟩) l.length (c - 1))) b l) := SrcW.put hbk (src_tail h.ok) (Sl.tail hsl) (by decide)
      have hK : Hid (Kept (· = b) w (w.setCell ⟨b, 1, none⟩ (.slice (some ⟨g, off + 1, none⟩) l.length (c - 1)))) := (Kept.refl (· = b) w).put1 1 _
      simp only [List.length_cons] at hc1 hcap
      clear h hbk hsl H HB HS
      go_enter Tryz.func68, Tryz.ntmps68
      go_wp2_with (go_at_call 110; refine (rvalid_yes _ _ hc0).mono ?_; rintro e w' ⟨rfl, rfl⟩)
      go_ret
      exact ⟨rfl, hP.out, hK.out⟩
set_option maxHeartbeats 2000000 in
set_option maxRecDepth 100000 in
theorem radd_ok (s : ByteArray) (b : Nat) (L : List Int) (w : World) (h : SrcW 184 w b L) (hs : s.size ≤ 140737488351232) : Calls Tryz.prog 84 #[.pointer (some ⟨b, 0, none⟩), .string s] w fun e w' => e = .returned (.int .i64 (aE L s.data.toList)) ∧ SrcW 184 w' b (aL L s.data.toList) ∧ Kept (· = b) w w' := by
  have hc0 := h.cells.choose_spec.choose_spec.1
  have H := Lib.hid h
  have HP := Lib.hid (rparse_ok s w hs)
  have HSZ := Lib.hid (size_data s)
  clear h
  go_enter Tryz.func84, Tryz.ntmps84
  go_wp2_with fail
  refine (rvalid_yes _ _ hc0).mono ?_
  rintro e w' ⟨rfl, rfl⟩
  go_wp2_with fail
  refine HP.out.mono ?_
  rintro e w1 ⟨v, rfl, hv, hb1⟩
  obtain ⟨a1, c1, rfl, hv1⟩ := hv.len
  have HV := Lib.hid hv1
  have HB1 := Lib.hid hb1
  have HS1 := Lib.hid (H.out.below hb1)
  by_cases hE : pE s.data.toList = 0
  · have hle := H.out.ok.le
    have hpl := pL_ok hE
    have hnl : (nums s.data.toList).length = s.data.toList.length := nums_length _
    by_cases hm : L.length + s.data.toList.length ≤ 2000
    · have hA := aE_ok hE hm
      have HA := Lib.hid (And.intro hA (aL_ok hA))
      have HL2 : Hid (Src (L ++ nums s.data.toList)) := by
        have := src_add H.out.ok s.data.toList
        rwa [aL_ok hA] at this
      rw [hpl] at HV ⊢
      rw [hE]
      have hm2 : L.length + (nums s.data.toList).length ≤ 2000 := by rw [hnl]; exact hm
      generalize nums s.data.toList = M at *
      obtain ⟨a, c, hd0, hd1, hdf, hdsl, hdbk⟩ := HS1.out.cells
      have HD := Lib.hid hdsl
      have HK := Lib.hid hdbk
      have hbl := hdbk.lt
      clear hv hv1 hb1 hdsl hdbk hc0 hE hA hnl hpl hm
      have HBW : Hid (Below w1.heap.size w1 (w1.alloc (.cells #[] 3))) := (Below.refl _ w1).alloc (Nat.le_refl _) _
      have HO := Lib.hid (own_empty w1)
      go_wp2_with (at_builtin; refine wpList_append_sl rfl _ _ rfl w1.heap.size _ 0 [] rfl HO.out _ L rfl (HD.out.below HBW.out) (by omega) (by simp) ?_)
      intro u1 w3 hown1 hgrow1
      have hb4 := HBW.out.grown hgrow1 (by simp) (fun k hk => own_lt HO.out k hk)
      have HO1 := Lib.hid hown1
      have HB4 := Lib.hid hb4
      clear hown1 hgrow1 hb4
      go_wp2_with (at_builtin; refine wpList_append_sl rfl _ _ rfl w1.heap.size _ _ _ rfl HO1.out _ M rfl (HV.out.below HB4.out) (by omega) HB4.out.size ?_)
      intro u w2 hown2 hgrow2
      have hb3 := HB4.out.grown hgrow2 HB4.out.size (fun k hk => own_lt HO1.out k hk)
      have hown : w2.ownsRow w1.heap.size 3 1 u (L ++ M).length (ints (L ++ M)) := by simpa [ints] using hown2
      clear hown2 hgrow2
      have hsl := Sl.of_own hown
      obtain ⟨a2, c2, rfl, hsl2⟩ := hsl.len
      have hbk2 := HK.out.below hb3
      have hP : Hid (SrcW 184 (w2.setCell ⟨b, 1, none⟩ (.slice a2 (L ++ M).length c2)) b (L ++ M)) := SrcW.put hbk2 HL2.out hsl2 (by decide)
      have hKK : Hid (Kept (· = b) w (w2.setCell ⟨b, 1, none⟩ (.slice a2 (L ++ M).length c2))) := ((Kept.of_below (bel2 HB1.out hb3)) : Kept (· = b) w w2).put1 1 _
      have hcb : w2.cell? ⟨b, 1, none⟩ = some (.slice a L.length c) := hbk2.cell 1
      have hfb : w2.frozen? ⟨b, 1, none⟩ = false := hbk2.frozen 1
      clear hown hb3 hsl hsl2 hbk2 hd0 hd1 hdf
      generalize (L ++ M).length = N at *
      go_wp2
      go_ret
      exact ⟨by rw [HA.out.1]; rfl, by rw [HA.out.2]; exact hP.out, hKK.out⟩
    · have hA := aE_many hE (by omega : 2000 < L.length + s.data.toList.length)
      have HA := Lib.hid (And.intro hA (aL_no (L := L) (bs := s.data.toList) (by rw [hA]; decide)))
      rw [hpl] at HV ⊢
      rw [hE]
      have hm2 : 2000 < L.length + (nums s.data.toList).length := by rw [hnl]; omega
      have hml : (nums s.data.toList).length ≤ 2000 := by rw [hnl]; exact (pE_zero hE).1
      generalize nums s.data.toList = M at *
      obtain ⟨a, c, hd0, hd1, hdf, hdsl, hdbk⟩ := HS1.out.cells
      clear hv hv1 hb1 hdsl hdbk hc0 hE hA hnl hpl hm
      go_wp2
      go_ret
      exact ⟨by rw [HA.out.1]; rfl, by rw [HA.out.2]; exact HS1.out, Kept.of_below HB1.out⟩
  · have hA := aE_parse (L := L) hE
    have HA := Lib.hid (And.intro hA (aL_no (L := L) (bs := s.data.toList) (by rw [hA]; exact hE)))
    have hne : ((pE s.data.toList : Int) != 0) = true := by simp; omega
    generalize pE s.data.toList = E at *
    clear hv hv1 hb1 hc0 hE hA
    go_wp2
    go_ret
    exact ⟨by rw [HA.out.1]; rfl, by rw [HA.out.2]; exact HS1.out, Kept.of_below HB1.out⟩
set_option maxHeartbeats 1000000 in
set_option maxRecDepth 100000 in
theorem rcopy_ok (b : Nat) (L : List Int) (w : World) (h : SrcW 184 w b L) : Calls Tryz.prog 90 #[.pointer (some ⟨b, 0, none⟩)] w fun e w' => ∃ b', w.heap.size ≤ b' ∧ e = .returned (.pointer (some ⟨b', 0, none⟩)) ∧ SrcW 184 w' b' L ∧ Below w.heap.size w w' := by
  obtain ⟨a, c, hc0, hc1, hf, hsl, hbk⟩ := h.cells
  have hle := h.ok.le
  have hbl := hbk.lt
  have H := Lib.hid h
  have HS := Lib.hid hsl
  clear h hsl hbk
  go_enter Tryz.func90, Tryz.ntmps90
  go_wp2_with fail
  refine (rvalid_yes _ _ hc0).mono ?_
  rintro e w' ⟨rfl, rfl⟩
  have HBW : Hid (Below w.heap.size w (w.alloc (.cells #[] 3))) := (Below.refl _ w).alloc (Nat.le_refl _) _
  have HO := Lib.hid (own_empty w)
  go_wp2_with (at_builtin; refine wpList_append_sl rfl _ _ rfl w.heap.size _ 0 [] rfl HO.out _ L rfl (HS.out.below HBW.out) (by omega) (by simp) ?_)
  intro u w1 hown1 hgrow1
  have hb1 := HBW.out.grown hgrow1 (by simp) (fun k hk => own_lt HO.out k hk)
  have hown : w1.ownsRow w.heap.size 3 1 u L.length (ints L) := by simpa [ints] using hown1
  clear hown1 hgrow1
  have hsl1 := Sl.of_own hown
  obtain ⟨a1, c1, rfl, hsl2⟩ := hsl1.len
  have HB1 := Lib.hid hb1
  have HV := Lib.hid hsl2
  clear hown hb1 hsl1 hsl2 hc0 hc1 hf
  go_wp2
  go_ret
  exact ⟨_, HB1.out.size, rfl, ⟨H.out.ok, a1, c1, Bk.new _ _ _, HV.out.below ((Below.refl _ _).alloc (Nat.le_refl _) _)⟩, HB1.out.alloc HB1.out.size _⟩
end Go.Proofs.YtpinmiplefidpaaGreatDoor.AN
