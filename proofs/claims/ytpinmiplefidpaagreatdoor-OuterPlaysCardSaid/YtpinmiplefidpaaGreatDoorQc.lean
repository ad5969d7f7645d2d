/- The document's source told of where its answers lie; the document's world: Tick, Answer, Ledger, New. -/
import Derived.Test.YtpinmiplefidpaaGreatDoorQb
namespace Go.Proofs.YtpinmiplefidpaaGreatDoor.AN
open Go.RowKit
set_option maxRecDepth 100000 in
set_option maxHeartbeats 2000000 in
theorem rnext_at (b : Nat) (L : List Int) (w : World) (h : SrcW 184 w b L) : Calls Tryz.prog 68 #[.pointer (some ⟨b, 0, none⟩)] w fun e w' => e = .returned (.int .i64 (L.headD 1)) ∧ SrcW 184 w' b L.tail ∧ Kept (· = b) w w' ∧ Hid (∀ P : Nat → Prop, At w b P → At w' b P) := by
  obtain ⟨a, c, hc0, hc1, hf, hsl, hbk⟩ := h.cells
  have H := Lib.hid h
  have HB := Lib.hid hbk
  have HS := Lib.hid hsl
  cases L with
  | nil =>
    clear h hbk hsl
    go_enter Tryz.func68, Tryz.ntmps68
    go_wp2_with (go_at_call 110; refine (rvalid_yes _ _ hc0).mono ?_; rintro e w' ⟨rfl, rfl⟩)
    go_ret
    exact ⟨rfl, H.out, Kept.refl _ _, fun _ h => h⟩
  | cons x l =>
    obtain ⟨g, off, rfl, hg, hcell, _⟩ := hsl.cell (j := 0) (by simp)
    obtain ⟨_, hcap, _, _⟩ := hsl.cap
    simp only [List.getElem_cons_zero, Nat.add_zero] at hcell
    by_cases hc : c = 1
    · subst hc
      have hl : l = [] := List.eq_nil_of_length_eq_zero (by rw [List.length_cons] at hcap; omega)
      subst hl
      have hP : Hid (SrcW 184 (w.setCell ⟨b, 1, none⟩ (.slice (some ⟨g, off, none⟩) 0 0)) b []) := SrcW.put hbk (src_tail h.ok) (Sl.tail0 hsl) (by decide)
      have hK : Hid (Kept (· = b) w (w.setCell ⟨b, 1, none⟩ (.slice (some ⟨g, off, none⟩) 0 0))) := (Kept.refl (· = b) w).put1 1 _
      simp only [List.length_cons, List.length_nil, Nat.zero_add] at hc1 hcap
      have hA : Hid (∀ P : Nat → Prop, At w b P → At (w.setCell ⟨b, 1, none⟩ (.slice (some ⟨g, off, none⟩) 0 0)) b P) := fun P h => At.put hbk (fun a0 e => by have := At.here h hc1 _ rfl; cases e; exact this)
      clear h hbk hsl H HB HS
      go_enter Tryz.func68, Tryz.ntmps68
      go_wp2_with (go_at_call 110; refine (rvalid_yes _ _ hc0).mono ?_; rintro e w' ⟨rfl, rfl⟩)
      go_ret
      exact ⟨rfl, hP.out, hK.out, hA.out⟩
    · have hP : Hid (SrcW 184 (w.setCell ⟨b, 1, none⟩ (.slice (some ⟨g, off + 1, none⟩) l.length (c - 1))) b l) := SrcW.put hbk (src_tail h.ok) (Sl.tail hsl) (by decide)
      have hK : Hid (Kept (· = b) w (w.setCell ⟨b, 1, none⟩ (.slice (some ⟨g, off + 1, none⟩) l.length (c - 1)))) := (Kept.refl (· = b) w).put1 1 _
      simp only [List.length_cons] at hc1 hcap
      have hA : Hid (∀ P : Nat → Prop, At w b P → At (w.setCell ⟨b, 1, none⟩ (.slice (some ⟨g, off + 1, none⟩) l.length (c - 1))) b P) := fun P h => At.put hbk (fun a0 e => by have := At.here h hc1 _ rfl; cases e; exact this)
      clear h hbk hsl H HB HS
      go_enter Tryz.func68, Tryz.ntmps68
      go_wp2_with (go_at_call 110; refine (rvalid_yes _ _ hc0).mono ?_; rintro e w' ⟨rfl, rfl⟩)
      go_ret
      exact ⟨rfl, hP.out, hK.out, hA.out⟩
set_option maxRecDepth 100000 in
set_option maxHeartbeats 2000000 in
theorem radd_at (s : ByteArray) (b : Nat) (L : List Int) (w : World) (h : SrcW 184 w b L) (hs : s.size ≤ 140737488351232) : Calls Tryz.prog 84 #[.pointer (some ⟨b, 0, none⟩), .string s] w fun e w' => e = .returned (.int .i64 (aE L s.data.toList)) ∧ SrcW 184 w' b (aL L s.data.toList) ∧ Kept (· = b) w w' ∧ Hid (∀ P : Nat → Prop, (∀ k, w.heap.size ≤ k → P k) → At w b P → At w' b P) := by
  have hc0 := h.cells.choose_spec.choose_spec.1
  have H := Lib.hid h
  have HP := Lib.hid (rparse_ok s w hs)
  have HSZ := Lib.hid (size_data s)
  clear h
  go_enter Tryz.func84, Tryz.ntmps84
  go_wp2_with fail
  refine (rvalid_yes _ _ hc0).mono ?_
  rintro e w' ⟨rfl, rfl⟩
  go_wp2_with fail
  refine HP.out.mono ?_
  rintro e w1 ⟨v, rfl, hv, hb1⟩
  obtain ⟨a1, c1, rfl, hv1⟩ := hv.len
  have HV := Lib.hid hv1
  have HB1 := Lib.hid hb1
  have HS1 := Lib.hid (H.out.below hb1)
  by_cases hE : pE s.data.toList = 0
  · have hle := H.out.ok.le
    have hpl := pL_ok hE
    have hnl : (nums s.data.toList).length = s.data.toList.length := nums_length _
    by_cases hm : L.length + s.data.toList.length ≤ 2000
    · have hA := aE_ok hE hm
      have HA := Lib.hid (And.intro hA (aL_ok hA))
      have HL2 : Hid (Src (L ++ nums s.data.toList)) := by
        have := src_add H.out.ok s.data.toList
        rwa [aL_ok hA] at this
      rw [hpl] at HV ⊢
      rw [hE]
      have hm2 : L.length + (nums s.data.toList).length ≤ 2000 := by rw [hnl]; exact hm
      generalize nums s.data.toList = M at *
      obtain ⟨a, c, hd0, hd1, hdf, hdsl, hdbk⟩ := HS1.out.cells
      have HD := Lib.hid hdsl
      have HK := Lib.hid hdbk
      have hbl := hdbk.lt
      clear hv hv1 hb1 hdsl hdbk hc0 hE hA hnl hpl hm
      have HBW : Hid (Below w1.heap.size w1 (w1.alloc (.cells #[] 3))) := (Below.refl _ w1).alloc (Nat.le_refl _) _
      have HO := Lib.hid (own_empty w1)
      go_wp2_with (at_builtin; refine wpList_append_sl rfl _ _ rfl w1.heap.size _ 0 [] rfl HO.out _ L rfl (HD.out.below HBW.out) (by omega) (by simp) ?_)
      intro u1 w3 hown1 hgrow1
      have hb4 := HBW.out.grown hgrow1 (by simp) (fun k hk => own_lt HO.out k hk)
      have HO1 := Lib.hid hown1
      have HB4 := Lib.hid hb4
      clear hown1 hgrow1 hb4
      go_wp2_with (at_builtin; refine wpList_append_sl rfl _ _ rfl w1.heap.size _ _ _ rfl HO1.out _ M rfl (HV.out.below HB4.out) (by omega) HB4.out.size ?_)
      intro u w2 hown2 hgrow2
      have hb3 := HB4.out.grown hgrow2 HB4.out.size (fun k hk => own_lt HO1.out k hk)
      have hown : w2.ownsRow w1.heap.size 3 1 u (L ++ M).length (ints (L ++ M)) := by simpa [ints] using hown2
      clear hown2 hgrow2
      have hsl := Sl.of_own hown
      obtain ⟨a2, c2, rfl, hsl2⟩ := hsl.len
      have hbk2 := HK.out.below hb3
      have hP : Hid (SrcW 184 (w2.setCell ⟨b, 1, none⟩ (.slice a2 (L ++ M).length c2)) b (L ++ M)) := SrcW.put hbk2 HL2.out hsl2 (by decide)
      have hKK : Hid (Kept (· = b) w (w2.setCell ⟨b, 1, none⟩ (.slice a2 (L ++ M).length c2))) := ((Kept.of_below (bel2 HB1.out hb3)) : Kept (· = b) w w2).put1 1 _
      have hAt : Hid (∀ P : Nat → Prop, (∀ k, w.heap.size ≤ k → P k) → At w b P → At (w2.setCell ⟨b, 1, none⟩ (.slice a2 (L ++ M).length c2)) b P) := fun P hP _ => At.put hbk2 fun a0 ha => hP _ (Nat.le_trans HB1.out.size (hown.lt a0.block (by subst ha; rfl)).1)
      have hcb : w2.cell? ⟨b, 1, none⟩ = some (.slice a L.length c) := hbk2.cell 1
      have hfb : w2.frozen? ⟨b, 1, none⟩ = false := hbk2.frozen 1
      clear hown hb3 hsl hsl2 hbk2 hd0 hd1 hdf
      generalize (L ++ M).length = N at *
      go_wp2
      go_ret
      exact ⟨by rw [HA.out.1]; rfl, by rw [HA.out.2]; exact hP.out, hKK.out, hAt.out⟩
    · have hA := aE_many hE (by omega : 2000 < L.length + s.data.toList.length)
      have HA := Lib.hid (And.intro hA (aL_no (L := L) (bs := s.data.toList) (by rw [hA]; decide)))
      rw [hpl] at HV ⊢
      rw [hE]
      have hm2 : 2000 < L.length + (nums s.data.toList).length := by rw [hnl]; omega
      have hml : (nums s.data.toList).length ≤ 2000 := by rw [hnl]; exact (pE_zero hE).1
      generalize nums s.data.toList = M at *
      obtain ⟨a, c, hd0, hd1, hdf, hdsl, hdbk⟩ := HS1.out.cells
      clear hv hv1 hb1 hdsl hdbk hc0 hE hA hnl hpl hm
      go_wp2
      go_ret
      exact ⟨by rw [HA.out.1]; rfl, by rw [HA.out.2]; exact HS1.out, Kept.of_below HB1.out, fun _ _ h => h.below HB1.out⟩
  · have hA := aE_parse (L := L) hE
    have HA := Lib.hid (And.intro hA (aL_no (L := L) (bs := s.data.toList) (by rw [hA]; exact hE)))
    have hne : ((pE s.data.toList : Int) != 0) = true := by simp; omega
    generalize pE s.data.toList = E at *
    clear hv hv1 hb1 hc0 hE hA
    go_wp2
    go_ret
    exact ⟨by rw [HA.out.1]; rfl, by rw [HA.out.2]; exact HS1.out, Kept.of_below HB1.out, fun _ _ h => h.below HB1.out⟩
end Go.Proofs.YtpinmiplefidpaaGreatDoor.AN
namespace Go.Proofs.YtpinmiplefidpaaGreatDoor
open Go.RowKit

/-- The answers are turned: At says where they lie then. -/
theorem RW.stepAt {w w' : World} {x : Rx} {W : Wd} {L' : List Int} (h : RW w x W) (k : Kept (· = x.s) w w') (hS : AN.SrcW 184 w' x.s L') (hat : ∀ P : Nat → Prop, (∀ k, w.heap.size ≤ k → P k) → AN.At w x.s P → AN.At w' x.s P) (hok : Wd.Ok { W with L := L' }) : RW w' x { W with L := L' } ∧ RStep x x w w' := by
  refine h.stepS k hS (fun g hg => ?_) hok
  obtain ⟨a, c, hc0, hc1, _, _, _⟩ := h.hS.cells
  have h0 : AN.At w x.s (fun g => ASl w x.s g ∨ w.heap.size ≤ g) := ⟨a, _, c, hc1, fun a0 e => .inl ⟨a0, _, c, by rw [hc1, e], rfl⟩⟩
  obtain ⟨a', n', c', h3, h4⟩ := hat _ (fun k hk => .inr hk) h0
  obtain ⟨b, n2, c2, h5, rfl⟩ := hg
  rw [h3] at h5
  injection h5 with h5
  injection h5 with h6 _ _
  exact h4 b h6
theorem rtick_nil (t : Int) (w : World) : Calls Tryz.prog 23 #[.pointer none, .int .i64 t] w fun e w' => e = .returned (.int .i64 1) ∧ w = w' := by
  go_enter Tryz.func23, Tryz.ntmps23
  go_wp2_with fail
  refine (rv_nil _).mono ?_
  rintro e w' ⟨rfl, rfl⟩
  go_wp2
  go_ret
  exact ⟨rfl, rfl⟩
theorem ranswer_nil (s : ByteArray) (w : World) : Calls Tryz.prog 25 #[.pointer none, .string s] w fun e w' => e = .returned (.int .i64 1) ∧ w = w' := by
  go_enter Tryz.func25, Tryz.ntmps25
  go_wp2_with fail
  refine (rv_nil _).mono ?_
  rintro e w' ⟨rfl, rfl⟩
  go_wp2
  go_ret
  exact ⟨rfl, rfl⟩
theorem rledger_nil (w : World) : Calls Tryz.prog 38 #[.pointer none] w fun e w' => e = .returned (.pointer none) ∧ w = w' := by
  go_enter Tryz.func38, Tryz.ntmps38
  go_wp2_with fail
  refine (rv_nil _).mono ?_
  rintro e w' ⟨rfl, rfl⟩
  go_wp2
  go_ret
  exact ⟨rfl, rfl⟩
theorem rcopy_nil (w : World) : Calls Tryz.prog 27 #[.pointer none] w fun e w' => e = .returned (.pointer none) ∧ w = w' := by
  go_enter Tryz.func27, Tryz.ntmps27
  go_wp2_with fail
  refine (rv_nil _).mono ?_
  rintro e w' ⟨rfl, rfl⟩
  go_wp2
  go_ret
  exact ⟨rfl, rfl⟩
theorem racq_nil (k x : Int) (w : World) : Calls Tryz.prog 17 #[.pointer none, .int .i64 k, .int .i64 x] w fun e w' => e = .returned (.tuple #[.agg #[.int .i64 0, .int .i64 0, .int .u32 0], .int .i64 1]) ∧ Below w.heap.size w w' := by
  have HB := Lib.hid (bel_new w (.cells #[.int .i64 0, .int .i64 0, .int .u32 0] 25))
  go_enter Tryz.func17, Tryz.ntmps17
  go_wp2_with fail
  refine (rv_nil _).mono ?_
  rintro e w' ⟨rfl, rfl⟩
  go_wp2
  exact bodyPost_ret (v := .tuple #[.agg #[.int .i64 0, .int .i64 0, .int .u32 0], .int .i64 1]) (by simp [results, Tryz.results17, go_sem]) rfl ⟨rfl, HB.out⟩
theorem rrel_nil (k i g y : Int) (w : World) : Calls Tryz.prog 19 #[.pointer none, .agg #[.int .i64 k, .int .i64 i, .int .u32 g], .int .i64 y] w fun e w' => e = .returned (.tuple #[.int .i64 0, .int .i64 1]) ∧ Below w.heap.size w w' := by
  have HB := Lib.hid (bel_new w (.cells #[.int .i64 k, .int .i64 i, .int .u32 g] 25))
  go_enter Tryz.func19, Tryz.ntmps19
  go_wp2_with fail
  refine (rv_nil _).mono ?_
  rintro e w' ⟨rfl, rfl⟩
  go_wp2
  exact bodyPost_ret (v := .tuple #[.int .i64 0, .int .i64 1]) (by simp [results, Tryz.results19, go_sem]) rfl ⟨rfl, HB.out⟩
set_option maxHeartbeats 1000000 in
theorem rtick_ok (x : Rx) (W : Wd) (t : Int) (w : World) (h : RW w x W) (ht : I64 t) : Calls Tryz.prog 23 #[ptr x.r, .int .i64 t] w fun e w' => e = .returned (.int .i64 (W.tE t)) ∧ RW w' x (W.tick t) ∧ RStep x x w w' := by
  have c0 := h.c0
  have c6 := h.c6
  have fz := h.fz 6
  have t0 := h.ok.T0
  have t1 := h.ok.T1
  have H := Lib.hid h
  have HOK := Lib.hid (h.ok.tick t)
  obtain ⟨ht0, ht1⟩ := ht
  clear h
  unfold ptr
  by_cases hs : LS.IsSpan t
  · have SP := Lib.hid (fun v => rsp_is t true v (decide_eq_true hs))
    obtain ⟨s0, s1⟩ := hs
    by_cases hl : 1099511627776 < W.T + t
    · have e1 : W.tE t = 17 := by unfold Wd.tE; rw [if_pos ⟨s0, s1⟩, if_pos hl]
      have e2 : W.tick t = W := by unfold Wd.tick; rw [if_neg (by rw [e1]; decide)]
      rw [e1, e2]
      clear e1 e2 HOK
      generalize W.T = T at *
      go_enter Tryz.func23, Tryz.ntmps23
      go_wp2_with fail
      refine (rv_yes _ _ c0).mono ?_
      rintro e w' ⟨rfl, rfl⟩
      go_wp2_with fail
      refine (SP.out _).mono ?_
      rintro e w' ⟨rfl, rfl⟩
      go_wp2
      go_ret
      exact ⟨rfl, H.out, RStep.refl _ _⟩
    · have e1 : W.tE t = 0 := by unfold Wd.tE; rw [if_pos ⟨s0, s1⟩, if_neg hl]
      have e2 : W.tick t = { W with T := W.T + t } := by unfold Wd.tick; rw [if_pos e1]
      rw [e2] at HOK
      have F := Lib.hid (H.out.stepT HOK.out)
      rw [e1, e2]
      clear e1 e2 HOK
      generalize W.T = T at *
      go_enter Tryz.func23, Tryz.ntmps23
      go_wp2_with fail
      refine (rv_yes _ _ c0).mono ?_
      rintro e w' ⟨rfl, rfl⟩
      go_wp2_with fail
      refine (SP.out _).mono ?_
      rintro e w' ⟨rfl, rfl⟩
      go_wp2
      go_ret
      exact ⟨rfl, F.out.1, F.out.2⟩
  · have SP := Lib.hid (fun v => rsp_is t false v (decide_eq_false hs))
    have e1 : W.tE t = 2 := by unfold Wd.tE; rw [if_neg hs]
    have e2 : W.tick t = W := by unfold Wd.tick; rw [if_neg (by rw [e1]; decide)]
    rw [e1, e2]
    clear e1 e2 HOK hs
    go_enter Tryz.func23, Tryz.ntmps23
    go_wp2_with fail
    refine (rv_yes _ _ c0).mono ?_
    rintro e w' ⟨rfl, rfl⟩
    go_wp2_with fail
    refine (SP.out _).mono ?_
    rintro e w' ⟨rfl, rfl⟩
    go_wp2
    go_ret
    exact ⟨rfl, H.out, RStep.refl _ _⟩
theorem ranswer_ok (x : Rx) (W : Wd) (s : ByteArray) (w : World) (h : RW w x W) (hs : s.size ≤ 140737488351232) : Calls Tryz.prog 25 #[ptr x.r, .string s] w fun e w' => e = .returned (.int .i64 (W.sE s.data.toList)) ∧ RW w' x (W.said s.data.toList) ∧ RStep x x w w' := by
  have c0 := h.c0
  have c4 := h.c4
  have H := Lib.hid h
  have AD := Lib.hid (AN.radd_at s x.s W.L w h.hS hs)
  clear h
  unfold ptr at *
  go_enter Tryz.func25, Tryz.ntmps25
  go_wp2_with fail
  refine (rv_yes _ _ c0).mono ?_
  rintro e w' ⟨rfl, rfl⟩
  go_wp2_with fail
  refine AD.out.mono ?_
  rintro e w1 ⟨rfl, h1, h2, h3⟩
  have F := Lib.hid (H.out.stepAt h2 h1 h3.out (H.out.ok.said _))
  have eS : ((AN.aE W.L s.data.toList : Nat) : Int) = W.sE s.data.toList := rfl
  have ES := Lib.hid eS
  clear h1 h2 h3 eS
  go_wp2
  go_ret
  exact ⟨by rw [ES.out]; rfl, F.out.1, F.out.2⟩
theorem rledger_ok (x : Rx) (W : Wd) (w : World) (h : RW w x W) : Calls Tryz.prog 38 #[ptr x.r] w fun e w' => ∃ b v, e = .returned (.pointer (some ⟨b, 0, none⟩)) ∧ Hid (LG.RefW w' b v w.heap.size W.B) ∧ Hid (Below w.heap.size w w') := by
  have c0 := h.c0
  have c5 := h.c5
  have LC := Lib.hid (rlcopy_ok x.g x.lo x.v W.B w h.hL)
  clear h
  unfold ptr at *
  go_enter Tryz.func38, Tryz.ntmps38
  go_wp2_with fail
  refine (rv_yes _ _ c0).mono ?_
  rintro e w' ⟨rfl, rfl⟩
  go_wp2_with fail
  refine LC.out.mono ?_
  rintro e w1 ⟨b, v, rfl, h1, h2⟩
  go_wp2
  go_ret
  exact ⟨b, v, rfl, h1, h2⟩
end Go.Proofs.YtpinmiplefidpaaGreatDoor
