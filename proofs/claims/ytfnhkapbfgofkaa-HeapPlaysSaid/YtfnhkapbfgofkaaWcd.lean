/- The contracts of the document's Free and Load. -/
import Derived.Test.YtfnhkapbfgofkaaWcb
import Derived.Test.YtfnhkapbfgofkaaWd
namespace Go.Proofs.Ytfnhkapbfgofkaa
open Go.RowKit

/-- The document's heap has become G. -/
def EStep (c d : Nat) (G : Hp) (w w' : World) : Prop := ∃ d', (d' = d ∨ w.heap.size ≤ d') ∧ EW w' c d' G ∧ Kept (· = c) w w'
theorem estep_no {c d : Nat} {H : Hp} {w w' : World} (h : EW w c d H) (b : Below w.heap.size w w') : EStep c d H w w' := ⟨d, .inl rfl, h.below b, Kept.of_below b⟩
theorem estep_set {c d : Nat} {G : Hp} {w w1 w' : World} (hb : Below w.heap.size w w1) (h : ESet c G w1 w') : EStep c d G w w' := by
  obtain ⟨d', h1, h2, h3⟩ := h
  exact ⟨d', .inr (Nat.le_trans hb.size h1), h2, (Kept.of_below hb).trans h3⟩
theorem estep_bel {c d : Nat} {G : Hp} {w w1 w' : World} (h : EStep c d G w w1) (b : Below w1.heap.size w1 w') : EStep c d G w w' := by
  obtain ⟨d', h1, h2, h3⟩ := h
  exact ⟨d', h1, h2.below b, h3.trans (Kept.of_below b)⟩
/-- A box that is neither the struct nor the slots stays. -/
theorem ox_held {H : Hp} {i : Nat} (h : H.t.s i = 1) : H.ox i = H.o i := if_pos h
theorem ox_not {H : Hp} {i : Nat} (h : H.t.s i ≠ 1) : H.ox i = ob0 := if_neg h
theorem turned_free {H : Hp} {i : Nat} {g : Int} (ok : H.Ok) (hE : H.chk ((i : Int), g) = 0) : H.t.s i = 1 ∧ i < H.t.n ∧ g = H.t.g i ∧ ((g = 4294967295 ∧ Turned H (H.freed ((i : Int), g)) i 2 (H.t.g i) ob0) ∨ (g ≠ 4294967295 ∧ Turned H (H.freed ((i : Int), g)) i 0 (H.t.g i + 1) ob0)) := by
  obtain ⟨k, e1, hin, his, e2, _⟩ := Hp.chk_zero hE
  simp only at e1 e2
  obtain rfl : i = k := by omega
  have et : (H.freed ((i : Int), g)).t = H.t.gave i := by
    show H.t.given (i : Int) g = _
    unfold Tb.given
    rw [if_pos (show H.t.chk (i : Int) g = 0 from hE), Int.toNat_natCast]
  have hox : ∀ j, (H.freed ((i : Int), g)).ox j = if (H.t.gave i).s j = 1 then H.o j else ob0 := fun j => by
    unfold Hp.ox
    rw [et]; rfl
  have hok := ok.freed ((i : Int), g)
  have hn := Hp.freed_n (H := H) ((i : Int), g)
  refine ⟨his, hin, e2, ?_⟩
  by_cases c : g = 4294967295
  · left
    have hg : H.t.g i = 4294967295 := by omega
    have eg : H.t.gave i = ⟨H.t.n, put H.t.s i 2, H.t.g⟩ := by unfold Tb.gave; rw [if_pos hg]
    refine ⟨c, hok, hn, fun j hj => ?_, ?_⟩
    · rw [hox, et, eg]
      refine ⟨put_other hj, rfl, ?_⟩
      show (if put H.t.s i 2 j = 1 then _ else _) = _
      rw [put_other hj]; rfl
    · rw [hox, et, eg]
      show ecl (put H.t.s i 2 i) (H.t.g i) (if put H.t.s i 2 i = 1 then _ else _) = _
      rw [put_same, if_neg (by decide)]
  · right
    have hg : H.t.g i ≠ 4294967295 := by omega
    have eg : H.t.gave i = ⟨H.t.n, put H.t.s i 0, put H.t.g i (H.t.g i + 1)⟩ := by unfold Tb.gave; rw [if_neg hg]
    refine ⟨c, hok, hn, fun j hj => ?_, ?_⟩
    · rw [hox, et, eg]
      refine ⟨put_other hj, put_other hj, ?_⟩
      show (if put H.t.s i 0 j = 1 then _ else _) = _
      rw [put_other hj]; rfl
    · rw [hox, et, eg]
      show ecl (put H.t.s i 0 i) (put H.t.g i (H.t.g i + 1) i) (if put H.t.s i 0 i = 1 then _ else _) = _
      rw [put_same, put_same, if_neg (by decide)]
set_option maxHeartbeats 2000000 in
theorem dh_free (c d : Nat) (H : Hp) (s g : Int) (E : Int) (hE : H.chk (s, g) = E) (w : World) (h : EW w c d H) : Calls Try.prog 17 #[.pointer (some ⟨c, 0, none⟩), .agg #[.int .i64 s, .int .u32 g]] w fun e w' => e = .returned (.int .i64 E) ∧ Hid (EStep c d (H.freed (s, g)) w w') := by
  obtain ⟨W, hW⟩ : ∃ W, w.alloc (.cells #[.int .i64 s, .int .u32 g] 34) = W := ⟨_, rfl⟩
  have HB : Hid (Below w.heap.size w W) := by rw [← hW]; exact bel_new _ _
  have hbx : Bk W w.heap.size 34 #[.int .i64 s, .int .u32 g] := by rw [← hW]; exact Bk.new _ _ _
  have BX := Lib.hid hbx
  have CK := Lib.hid (dh_chk c d H s g E hE W (h.below HB.out))
  have q0 : W.cell? ⟨w.heap.size, 0, none⟩ = some (.int .i64 s) := hbx.cell 0
  have q1 : W.cell? ⟨w.heap.size, 1, none⟩ = some (.int .u32 g) := hbx.cell 1
  have HD := Lib.hid h
  have HW := Lib.hid hW
  clear h hW hbx
  by_cases h0 : E = 0
  · subst h0
    obtain ⟨i, e1, -⟩ := Hp.chk_zero hE
    simp only at e1
    subst e1
    obtain ⟨his, hin, hg, hT⟩ := turned_free HD.out.ok hE
    have hgm := HD.out.ok.t.gm i
    rcases hT with ⟨hg2, T⟩ | ⟨hg2, T⟩
    · have SE : Hid (∀ X, Below W.heap.size W X → Calls Try.prog 40 #[.pointer (some ⟨c, 0, none⟩), .int .i64 i, .agg #[.bool false, .bool true, .int .u32 g, .int .i64 0, .int .i64 0, .int .u32 0, .int .i64 0, .int .u32 0, .int .i64 0, .int .u32 0, .int .i64 0, .int .u32 0, .bool false]] X fun e w' => e = .returned (.tuple #[]) ∧ Hid (ESet c (H.freed ((i : Int), g)) X w')) := fun X hX => by
        have := dh_set c d i 2 (H.t.g i) ob0 H _ X (HD.out.below (dh_tr HB.out hX)) hin T
        rw [show ((H.t.g i : Nat) : Int) = g by omega] at this
        exact this
      have hg1 : (g == 4294967295) = true := by simpa using hg2
      clear hE his hin hg T hgm hg2
      go_enter Try.func17, Try.ntmps17
      go_upto_region 1 with fail
      rw [HW.out]
      go_upto_region 4 with (go_at_call 44; refine CK.out.mono ?_; rintro e w2 ⟨rfl, hb2⟩; have HB2 := Lib.hid hb2; clear hb2)
      have r0 : w2.cell? ⟨w.heap.size, 0, none⟩ = some (.int .i64 (i : Nat)) := (BX.out.below HB2.out).cell 0
      have r1 : w2.cell? ⟨w.heap.size, 1, none⟩ = some (.int .u32 g) := (BX.out.below HB2.out).cell 1
      clear q0 q1
      go_wp2_with (go_at_call 40; refine (SE.out _ HB2.out).mono ?_; rintro e w3 ⟨rfl, hs3⟩)
      go_ret
      exact ⟨rfl, estep_set (dh_tr HB.out HB2.out) hs3.out⟩
    · have hg1 : (g == 4294967295) = false := by simpa using hg2
      have hwg : IntKind.u32.wrap (g + 1) = g + 1 := by rw [IntKind.wrap_u32]; omega
      have SE : Hid (∀ X, Below W.heap.size W X → Calls Try.prog 40 #[.pointer (some ⟨c, 0, none⟩), .int .i64 i, .agg #[.bool false, .bool false, .int .u32 (g + 1), .int .i64 0, .int .i64 0, .int .u32 0, .int .i64 0, .int .u32 0, .int .i64 0, .int .u32 0, .int .i64 0, .int .u32 0, .bool false]] X fun e w' => e = .returned (.tuple #[]) ∧ Hid (ESet c (H.freed ((i : Int), g)) X w')) := fun X hX => by
        have := dh_set c d i 0 (H.t.g i + 1) ob0 H _ X (HD.out.below (dh_tr HB.out hX)) hin T
        rw [show ((H.t.g i + 1 : Nat) : Int) = g + 1 by omega] at this
        exact this
      clear hE his hin hg T hgm hg2
      go_enter Try.func17, Try.ntmps17
      go_upto_region 1 with fail
      rw [HW.out]
      go_upto_region 4 with (go_at_call 44; refine CK.out.mono ?_; rintro e w2 ⟨rfl, hb2⟩; have HB2 := Lib.hid hb2; clear hb2)
      have r0 : w2.cell? ⟨w.heap.size, 0, none⟩ = some (.int .i64 (i : Nat)) := (BX.out.below HB2.out).cell 0
      have r1 : w2.cell? ⟨w.heap.size, 1, none⟩ = some (.int .u32 g) := (BX.out.below HB2.out).cell 1
      clear q0 q1
      go_wp2_with (go_at_call 40; refine (SE.out _ HB2.out).mono ?_; rintro e w3 ⟨rfl, hs3⟩)
      go_ret
      exact ⟨rfl, estep_set (dh_tr HB.out HB2.out) hs3.out⟩
  · have h0b : (E == 0) = false := by simpa using h0
    have FN : Hid (H.freed (s, g) = H) := freed_no (by rw [hE]; exact h0)
    rw [FN.out]
    clear hE
    go_enter Try.func17, Try.ntmps17
    go_upto_region 1 with fail
    rw [HW.out]
    go_wp2_with (go_at_call 44; refine CK.out.mono ?_; rintro e w2 ⟨rfl, hb2⟩; have HB2 := Lib.hid hb2; clear hb2)
    go_ret
    exact ⟨rfl, estep_no HD.out (dh_tr HB.out HB2.out)⟩
/-- Get's contract of the document's, its cells written out. -/
theorem dget_at (o : Ob) (hr : Rg o) (i : Int) (hi : -9223372036854775808 ≤ i ∧ i ≤ 9223372036854775807) (q : Rf) (E : Int) (hq : getR o i = (q, E)) (w : World) : Calls Try.prog 47 #[.agg #[.int .i64 o.n, .int .i64 o.a.1, .int .u32 o.a.2, .int .i64 o.b.1, .int .u32 o.b.2, .int .i64 o.c.1, .int .u32 o.c.2, .int .i64 o.d.1, .int .u32 o.d.2, .bool o.h], .int .i64 i] w fun e w' => e = .returned (.tuple #[.agg #[.int .i64 q.1, .int .u32 q.2], .int .i64 E]) ∧ Below w.heap.size w w' := by
  have := dget_any o hr i hi w
  rw [hq] at this
  exact this
set_option maxHeartbeats 2000000 in
theorem dh_load (c d : Nat) (H : Hp) (s g i : Int) (q : Rf) (E : Int) (hi : I64 i) (hq : H.lR (s, g) i = q) (hE : H.lE (s, g) i = E) (w : World) (h : EW w c d H) : Calls Try.prog 19 #[.pointer (some ⟨c, 0, none⟩), .agg #[.int .i64 s, .int .u32 g], .int .i64 i] w fun e w' => e = .returned (.tuple #[.agg #[.int .i64 q.1, .int .u32 q.2], .int .i64 E]) ∧ Below w.heap.size w w' := by
  obtain ⟨W, hW⟩ : ∃ W, (w.alloc (.cells (rfc (s, g)) 34)).alloc (.cells (rfc (0, 0)) 34) = W := ⟨_, rfl⟩
  obtain ⟨k1, k2, k3, k4⟩ := load_boxes w (s, g) hW
  have HB := Lib.hid k4
  have BX := Lib.hid k1
  have BR := Lib.hid k2
  have SZ := Lib.hid k3
  obtain ⟨o, ho⟩ : ∃ o, H.obj (s, g) = o := ⟨_, rfl⟩
  obtain ⟨E0, hE0⟩ : ∃ E0, H.chk (s, g) = E0 := ⟨_, rfl⟩
  have OB := Lib.hid (dh_obj c d H s g o E0 ho hE0 W (h.below k4))
  obtain ⟨q0, q1⟩ := k1.rf
  simp only at q0 q1
  simp only [rfc] at hW
  have HW := Lib.hid hW
  by_cases h0 : E0 = 0
  · subst h0
    have hrg : Rg o := by rw [← ho]; exact (h.ok.obj_poss hE0).rg
    have ea : H.at_ (s, g) = o := by rw [← ho]; unfold Hp.obj; rw [if_pos hE0]
    have hgt : getR o i = (q, E) := by
      unfold Hp.lR at hq
      unfold Hp.lE at hE
      rw [if_pos hE0, ea] at hq hE
      exact Prod.ext hq hE
    have GT := Lib.hid (fun X => dget_at o hrg i hi q E hgt X)
    clear h k1 k2 k3 k4 hW ho hE0 hrg ea hgt hq hE
    go_enter Try.func19, Try.ntmps19
    go_upto_region 1 with fail
    rw [HW.out]
    go_upto_region 2 with (go_at_call 46; refine OB.out.mono ?_; rintro e w2 ⟨rfl, hb2⟩; have HB2 := Lib.hid hb2; clear hb2)
    obtain ⟨W3, hW3⟩ : ∃ W3, w2.alloc (.cells (obc o) 86) = W3 := ⟨_, rfl⟩
    have B3 : Hid (Below W.heap.size W W3) := by rw [← hW3]; exact HB2.out.alloc HB2.out.size _
    have X8 : Hid (Bk W3 w2.heap.size 86 (obc o)) := by rw [← hW3]; exact Bk.new _ _ _
    unfold obc at hW3
    rw [hW3]
    clear hW3 q0 q1
    generalize w2.heap.size = B8 at *
    obtain ⟨o0, o1, o2, o3, o4, o5, o6, o7, o8, o9⟩ := X8.out.ob
    go_upto_region 4 with fail
    go_wp2_with (go_at_call 47; refine (GT.out _).mono ?_; rintro e w4 ⟨rfl, hb4⟩; have B4 := Lib.hid (dh_tr B3.out hb4); obtain ⟨a0, a1⟩ := (BR.out.below B4.out).rf; obtain ⟨f0, f1⟩ := (BR.out.below B4.out).rfz; have hlt := (BR.out.below B4.out).lt; clear hb4)
    refine bodyPost_ret (v := .tuple #[.agg #[.int .i64 q.1, .int .u32 q.2], .int .i64 E]) ?_ rfl ⟨rfl, ?_⟩
    · rw [results_cell_tmp rfl]
      go_simp
    · exact bel_two (dh_tr HB.out B4.out) (Nat.le_succ _) _ _
  · have h0b : (E0 == 0) = false := by simpa using h0
    obtain rfl : q = (0, 0) := by rw [← hq]; unfold Hp.lR; rw [if_neg (by rw [hE0]; exact h0)]
    obtain rfl : E = E0 := by rw [← hE]; unfold Hp.lE; rw [if_neg (by rw [hE0]; exact h0), hE0]
    clear h k1 k2 k3 k4 hW ho hE0 hq hE
    go_enter Try.func19, Try.ntmps19
    go_upto_region 1 with fail
    rw [HW.out]
    go_upto_region 2 with (go_at_call 46; refine OB.out.mono ?_; rintro e w2 ⟨rfl, hb2⟩; have HB2 := Lib.hid hb2; clear hb2)
    obtain ⟨W3, hW3⟩ : ∃ W3, w2.alloc (.cells (obc o) 86) = W3 := ⟨_, rfl⟩
    have B3 : Hid (Below W.heap.size W W3) := by rw [← hW3]; exact HB2.out.alloc HB2.out.size _
    unfold obc at hW3
    rw [hW3]
    clear hW3 q0 q1
    generalize w2.heap.size = B8 at *
    obtain ⟨a0, a1⟩ := (BR.out.below B3.out).rf
    obtain ⟨f0, f1⟩ := (BR.out.below B3.out).rfz
    have hlt := (BR.out.below B3.out).lt
    go_wp2
    refine bodyPost_ret (v := .tuple #[.agg #[.int .i64 0, .int .u32 0], .int .i64 E]) ?_ rfl ⟨rfl, ?_⟩
    · rw [results_cell_tmp rfl]
      go_simp
    · exact bel_two (dh_tr HB.out B3.out) (Nat.le_succ _) _ _
end Go.Proofs.Ytfnhkapbfgofkaa
