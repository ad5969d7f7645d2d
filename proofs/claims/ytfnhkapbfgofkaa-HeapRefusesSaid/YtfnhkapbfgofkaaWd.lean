/- The contracts of the program's Free with its closure, and Load. -/
import Derived.Test.YtfnhkapbfgofkaaWc
namespace Go.Proofs.Ytfnhkapbfgofkaa
open Go.RowKit

theorem given_s {T : Tb} {x y : Int} {i : Nat} (h : (T.given x y).s i = 1) : T.s i = 1 := by
  unfold Tb.given at h
  split at h
  · unfold Tb.gave at h
    split at h
    · simp only [put] at h
      split at h
      · omega
      · exact h
    · simp only [put] at h
      split at h
      · omega
      · exact h
  · exact h
theorem HW.gave {w w' : World} {b p t : Nat} {H : Hp} (h : HW w b p t H) (r : Rf) (ht : TabW w' t (H.t.given r.1 r.2)) (k : Kept (· = t) w w') : HW w' b p t (H.freed r) := by
  have h1 := h.tb
  have h2 := h.tp
  refine ⟨h.ok.freed r, h.hb.kept k fun e => h1 e.symm, ht, ?_⟩
  obtain ⟨O, g1, g2⟩ := h.at_
  exact ⟨O, g1.kept k fun e => h2 e.symm, fun i hi hs => g2 i (by rw [← H.t.given_n r.1 r.2]; exact hi) (given_s hs)⟩
def FreV (b p t : Nat) (H : Hp) (r : Rf) (w w' : World) : Prop := HW w' b p t (H.freed r) ∧ Kept (· = t) w w'
set_option maxHeartbeats 2000000 in
theorem free1_ok (B C b p t : Nat) (x : Value) (H : Hp) (s g : Int) (w : World) (h : HW w b p t H) (hB : Bk w B 25 #[.pointer (some ⟨b, 0, none⟩)]) (hC : Bk w C 34 (rfc (s, g))) :
    Calls Try.prog 42 #[x, .pointer (some ⟨B, 0, none⟩), .pointer (some ⟨C, 0, none⟩)] w fun e w' => e = .returned (.int .i64 (H.chk (s, g))) ∧ Hid (FreV b p t H (s, g) w w') := by
  have GV := Lib.hid (give_any t H.t s g w.drew (h.tab.same rfl))
  have HH := Lib.hid h
  have S0 : w.cell? ⟨B, 0, none⟩ = some (.pointer (some ⟨b, 0, none⟩)) ∧ w.cell? ⟨C, 0, none⟩ = some (.int .i64 s) ∧ w.cell? ⟨C, 1, none⟩ = some (.int .u32 g) ∧ w.cell? ⟨b, 0, none⟩ = some (.pointer (some ⟨p, 0, none⟩)) ∧ w.cell? ⟨p, 0, none⟩ = some (.pointer (some ⟨t, 0, none⟩)) := ⟨hB.cell 0, hC.cell 0, hC.cell 1, h.c0, h.cp⟩
  have hBt : B ≠ t := by rintro rfl; exact absurd (hB.uniq h.tab.bk).1 (by decide)
  have hCt : C ≠ t := by rintro rfl; exact absurd (hC.uniq h.tab.bk).1 (by decide)
  have hbt := h.tb
  have hpt := h.tp
  have KP : Hid (∀ W, Kept (· = t) w.drew W → W.cell? ⟨B, 0, none⟩ = some (.pointer (some ⟨b, 0, none⟩)) ∧ W.cell? ⟨C, 0, none⟩ = some (.int .i64 s) ∧ W.cell? ⟨C, 1, none⟩ = some (.int .u32 g) ∧ W.cell? ⟨b, 0, none⟩ = some (.pointer (some ⟨p, 0, none⟩)) ∧ W.cell? ⟨p, 0, none⟩ = some (.pointer (some ⟨t, 0, none⟩))) := fun W hk => by
    have q1 : Bk W B 25 #[.pointer (some ⟨b, 0, none⟩)] := Bk.kept (a := w.drew) (hB.same rfl) hk hBt
    have q2 : Bk W C 34 (rfc (s, g)) := Bk.kept (a := w.drew) (hC.same rfl) hk hCt
    have q3 : Bk W b 49 #[.pointer (some ⟨p, 0, none⟩)] := Bk.kept (a := w.drew) (h.hb.same rfl) hk fun e => hbt e.symm
    obtain ⟨O, g1, _⟩ := h.at_
    have q4 := Bk.kept (a := w.drew) (g1.same rfl) hk fun e => hpt e.symm
    exact ⟨q1.cell 0, q2.cell 0, q2.cell 1, q3.cell 0, by rw [q4.cell, pcells_zero]⟩
  have hE : H.t.chk s g = H.chk (s, g) := rfl
  rw [hE] at GV
  generalize H.chk (s, g) = E at *
  clear h hB hC hBt hCt hbt hpt hE
  obtain ⟨s0, s1, s2, s3, s4⟩ := S0
  go_enter Try.func42, Try.ntmps42
  go_upto_region 1 with fail
  go_region_held3 (fun W => W.cell? ⟨B, 0, none⟩ = some (.pointer (some ⟨b, 0, none⟩)) ∧ W.cell? ⟨C, 0, none⟩ = some (.int .i64 s) ∧ W.cell? ⟨C, 1, none⟩ = some (.int .u32 g) ∧ W.cell? ⟨b, 0, none⟩ = some (.pointer (some ⟨p, 0, none⟩)) ∧ W.cell? ⟨p, 0, none⟩ = some (.pointer (some ⟨t, 0, none⟩))) (first | (exact ⟨s0, s1, s2, s3, s4⟩) | (with_reducible exact hz1)) (first
    | (go_at_call 43; refine GV.out.mono ?_; rintro e w5 ⟨rfl, hT, hk⟩; have hz1 := KP.out w5 hk; have HZ : Hid (FreV b p t H (s, g) w w5) := ⟨(HH.out.same (w' := w.drew) (fun _ _ => rfl)).gave (s, g) hT hk, (Kept.refl _ w).drew.trans hk⟩; clear hT hk))
  all_goals
    go_wp2
    go_ret
    exact ⟨rfl, HZ.out⟩
theorem freed_no {H : Hp} {r : Rf} (h : H.chk r ≠ 0) : H.freed r = H := by
  have e : H.t.given r.1 r.2 = H.t := by unfold Tb.given; exact if_neg h
  unfold Hp.freed
  rw [e]
def FreeP (b p t : Nat) (H : Hp) (r : Rf) (w : World) (e : Ending) (w' : World) : Prop := e = .returned (.int .i64 (H.chk r)) ∧ Hid (FreV b p t H r w w')
set_option maxHeartbeats 2000000 in
theorem hfree_ok (b p t : Nat) (H : Hp) (r : Rf) (w : World) (h : HW w b p t H) : Calls Try.prog 16 #[.pointer (some ⟨b, 0, none⟩), .agg #[.int .i64 r.1, .int .u32 r.2]] w (FreeP b p t H r w) := by
  obtain ⟨s, g⟩ := r
  show Calls _ _ #[_, .agg #[.int .i64 s, .int .u32 g]] w _
  obtain ⟨w2, hw2⟩ : ∃ w2, (w.alloc (.cells #[.pointer (some ⟨b, 0, none⟩)] 25)).alloc (.cells (rfc (s, g)) 34) = w2 := ⟨_, rfl⟩
  obtain ⟨k1, k2, k3, k4⟩ := two_boxes w _ _ _ _ hw2
  have HW := Lib.hid hw2
  have hh := h.below k4
  have a0 : w2.cell? ⟨w.heap.size, 0, none⟩ = some (.pointer (some ⟨b, 0, none⟩)) := k1.cell 0
  obtain ⟨a1, a2⟩ := k2.rf
  have K4 := Lib.hid k4
  by_cases hr : H.chk (s, g) = 0
  · obtain ⟨k, e1, hk, hs, e2, e3⟩ := Hp.chk_zero hr
    simp only at e1 e2
    subst e1
    have FO := Lib.hid (found_free b p t k H g _ _ 0 (fun W w' => Hid (FreV b p t H ((k : Int), g) W w')) w2 hh hk hr (fun W hW => by
      have := free1_ok (w.heap.size) (w.heap.size + 1) b p t (.pointer (some ⟨p, 1 + k * 10, none⟩)) H k g W (hh.below hW) (k1.below hW) (k2.below hW)
      rwa [hr] at this))
    unfold FreeP
    rw [hr]
    simp only [rfc] at HW a1 a2
    clear h k1 k2 k3 k4 hw2 hh hr hk hs e2 e3
    go_enter Try.func16, Try.ntmps16
    go_upto_region 1 with fail
    rw [HW.out]
    go_wp2_with (go_at_call 41; refine FO.out.mono ?_; rintro e w6 ⟨rfl, W, hb, hF⟩; have HZ : Hid (FreV b p t H ((k : Int), g) w w6) := ⟨hF.out.1, (Kept.of_below (bel2 K4.out hb)).trans hF.out.2⟩; clear hF hb)
    go_ret
    exact ⟨rfl, HZ⟩
  · have FO := Lib.hid (found_err b p t H (s, g) hr (.func (.func 42) #[] #[.pointer (some ⟨w.heap.size, 0, none⟩), .pointer (some ⟨w.heap.size + 1, 0, none⟩)]) w2 hh)
    have HF : Hid (∀ W, Below w2.heap.size w2 W → FreV b p t H (s, g) w W) := fun W hW => by
      unfold FreV
      rw [freed_no hr]
      exact ⟨hh.below hW, Kept.of_below (bel2 k4 hW)⟩
    unfold FreeP
    generalize H.chk (s, g) = E at *
    simp only [rfc] at HW a1 a2
    clear h k1 k2 k3 k4 hw2 hh hr
    go_enter Try.func16, Try.ntmps16
    go_upto_region 1 with fail
    rw [HW.out]
    go_wp2_with (go_at_call 41; refine FO.out.mono ?_; rintro e w6 ⟨rfl, hb⟩; have HZ := Lib.hid (HF.out w6 hb); clear hb)
    go_ret
    exact ⟨rfl, HZ⟩

/-! ### Load -/
theorem load_boxes (w : World) (r : Rf) {w2 : World} (h : (w.alloc (.cells (rfc r) 34)).alloc (.cells (rfc (0, 0)) 34) = w2) :
    Bk w2 w.heap.size 34 (rfc r) ∧ Bk w2 (w.heap.size + 1) 34 (rfc (0, 0)) ∧ w2.heap.size = w.heap.size + 2 ∧ Below w.heap.size w w2 := two_boxes w _ _ _ _ h
/-- Get's contract, its cells written out. -/
theorem get_at (o : Ob) (hr : Rg o) (i : Int) (hi : -9223372036854775808 ≤ i ∧ i ≤ 9223372036854775807) (q : Rf) (E : Int) (hq : getR o i = (q, E)) (w : World) : Calls Try.prog 45 #[.agg #[.int .i64 o.n, .int .i64 o.a.1, .int .u32 o.a.2, .int .i64 o.b.1, .int .u32 o.b.2, .int .i64 o.c.1, .int .u32 o.c.2, .int .i64 o.d.1, .int .u32 o.d.2, .bool o.h], .int .i64 i] w fun e w' => e = .returned (.tuple #[.agg #[.int .i64 q.1, .int .u32 q.2], .int .i64 E]) ∧ Below w.heap.size w w' := by
  have := get_any o hr i hi w
  rw [hq] at this
  exact this
set_option maxHeartbeats 2000000 in
theorem hload_ok (b p t : Nat) (H : Hp) (r : Rf) (i : Int) (hi : -9223372036854775808 ≤ i ∧ i ≤ 9223372036854775807) (w : World) (h : HW w b p t H) : Calls Try.prog 18 #[.pointer (some ⟨b, 0, none⟩), .agg #[.int .i64 r.1, .int .u32 r.2], .int .i64 i] w fun e w' => e = .returned (.tuple #[rfv (H.lR r i), .int .i64 (H.lE r i)]) ∧ Below w.heap.size w w' := by
  obtain ⟨s, g⟩ := r
  show Calls _ _ #[_, .agg #[.int .i64 s, .int .u32 g], _] w _
  obtain ⟨w2, hw2⟩ : ∃ w2, (w.alloc (.cells (rfc (s, g)) 34)).alloc (.cells (rfc (0, 0)) 34) = w2 := ⟨_, rfl⟩
  obtain ⟨k1, k2, k3, k4⟩ := load_boxes w _ hw2
  have HW := Lib.hid hw2
  obtain ⟨a1, a2⟩ := k1.rf
  have K2 := Lib.hid k2
  have K4 := Lib.hid (And.intro k3 k4)
  obtain ⟨o, ho⟩ : ∃ o, H.obj (s, g) = o := ⟨_, rfl⟩
  by_cases hr : H.chk (s, g) = 0
  · have OB := Lib.hid (object_at b p t H s g o 0 ho hr w2 (h.below k4) w2 (Below.refl _ _))
    have hat : H.at_ (s, g) = o := by rw [← ho]; unfold Hp.obj; rw [if_pos hr]
    have hl : H.lR (s, g) i = (getR o i).1 ∧ H.lE (s, g) i = (getR o i).2 := by unfold Hp.lR Hp.lE; rw [if_pos hr, if_pos hr, hat]; exact ⟨rfl, rfl⟩
    rw [hl.1, hl.2]
    obtain ⟨⟨q, E⟩, hq⟩ : ∃ x, getR o i = x := ⟨_, rfl⟩
    have GT := Lib.hid (fun W => get_at o (by rw [← ho]; exact (h.ok.obj_poss hr).rg) i hi q E hq W)
    rw [hq]
    simp only [rfc] at HW a1 a2
    show Calls _ _ _ w fun e w' => e = .returned (.tuple #[.agg #[.int .i64 q.1, .int .u32 q.2], .int .i64 E]) ∧ _
    clear h k1 k2 k3 k4 hw2 ho hr hat hl hq hi
    go_enter Try.func18, Try.ntmps18
    go_upto_region 1 with fail
    rw [HW.out]
    go_wp2_with (go_at_call 26; refine OB.out.mono ?_; rintro e w3 ⟨rfl, hb3⟩; have HB3 := Lib.hid hb3; clear hb3)
    go_wp2_with (go_at_call 45; refine (GT.out _).mono ?_; rintro e w4 ⟨rfl, hb4⟩; have hb5 := bel2 (bel2 HB3.out (bel_new _ _)) hb4; obtain ⟨b0, b1⟩ := (K2.out.below hb5).rf; obtain ⟨f0, f1⟩ := (K2.out.below hb5).rfz; simp only at b0 b1; have HB5 := Lib.hid (bel2 K4.out.2 hb5); clear hb4 hb5)
    refine bodyPost_ret (v := .tuple #[.agg #[.int .i64 q.1, .int .u32 q.2], .int .i64 E]) ?_ rfl ⟨rfl, ?_⟩
    · rw [results_cell_tmp rfl]
      go_simp
    · exact bel_two HB5.out (by omega) _ _
  · obtain ⟨E, hE⟩ : ∃ E, H.chk (s, g) = E := ⟨_, rfl⟩
    have OB := Lib.hid (object_at b p t H s g o E ho hE w2 (h.below k4) w2 (Below.refl _ _))
    have hl : H.lR (s, g) i = (0, 0) ∧ H.lE (s, g) i = E := by unfold Hp.lR Hp.lE; rw [if_neg hr, if_neg hr]; exact ⟨rfl, hE⟩
    have hne : (E != 0) = true := by rw [← hE]; simpa using hr
    rw [hl.1, hl.2]
    simp only [rfc] at HW a1 a2
    show Calls _ _ _ w fun e w' => e = .returned (.tuple #[.agg #[.int .i64 0, .int .u32 0], .int .i64 E]) ∧ _
    clear h k1 k2 k3 k4 hw2 ho hr hl hi hE
    go_enter Try.func18, Try.ntmps18
    go_upto_region 1 with fail
    rw [HW.out]
    go_wp2_with (go_at_call 26; refine OB.out.mono ?_; rintro e w3 ⟨rfl, hb3⟩; have hb4 := bel2 hb3 (bel_new w3 (.cells #[.int .i64 o.n, .int .i64 o.a.1, .int .u32 o.a.2, .int .i64 o.b.1, .int .u32 o.b.2, .int .i64 o.c.1, .int .u32 o.c.2, .int .i64 o.d.1, .int .u32 o.d.2, .bool o.h] 53)); obtain ⟨b0, b1⟩ := (K2.out.below hb4).rf; obtain ⟨f0, f1⟩ := (K2.out.below hb4).rfz; simp only at b0 b1; have HB5 := Lib.hid (bel2 K4.out.2 hb4); clear hb3 hb4)
    refine bodyPost_ret (v := .tuple #[.agg #[.int .i64 0, .int .u32 0], .int .i64 E]) ?_ rfl ⟨rfl, ?_⟩
    · rw [results_cell_tmp rfl]
      go_simp
    · exact bel_two HB5.out (by omega) _ _
end Go.Proofs.Ytfnhkapbfgofkaa
