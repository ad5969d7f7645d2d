/- The contracts of the program's Object with its closure, Has, storable. -/
import Derived.Test.YtfnhkapbfgofkaaWb
import Derived.Test.YtfnhkapbfgofkaaNh
namespace Go.Proofs.Ytfnhkapbfgofkaa
open Go.RowKit

/-- What put10 at the beginning of a box of an object gives. -/
theorem put10_box {W : World} {B : Nat} {o o' : Ob} (h : Bk W B 53 (obc o)) : Bk (put10 W B 0 o') B 53 (obc o') := by
  have h1 := h.put10 0 o'
  have e : set10 (obc o) 0 o' = obc o' := by
    refine Array.ext_getElem? fun j => ?_
    by_cases hj : j < 10
    · have := set10_in (cs := obc o) (q := 0) o' (by simp [obc]) hj
      rwa [Nat.zero_add] at this
    · rw [Array.getElem?_eq_none (by rw [set10_size]; simp [obc]; omega), Array.getElem?_eq_none (by simp [obc]; omega)]
  rw [e] at h1; exact h1
set_option maxHeartbeats 1000000 in
theorem object1_ok (B p q : Nat) (o : Ob) (W : World) (hT : Ten W p q o) (hB : Bk W B 53 (obc ob0)) :
    Calls Try.prog 58 #[.pointer (some ⟨p, q, none⟩), .pointer (some ⟨B, 0, none⟩)] W fun e w' => e = .returned (.int .i64 0) ∧ (Bk w' B 53 (obc o) ∧ Kept (· = B) W w') := by
  obtain ⟨h0, h1, h2, h3, h4, h5, h6, h7, h8, h9⟩ := hT
  have HP : Hid (Bk (put10 W B 0 o) B 53 (obc o) ∧ Kept (· = B) W (put10 W B 0 o)) := ⟨put10_box hB, kept_put10 (Kept.refl (fun g => g = B) W) (.inr rfl) _ o⟩
  obtain ⟨a0, a1, a2, a3, a4, a5, a6, a7, a8, a9⟩ := hB.ob
  obtain ⟨f0, f1, f2, f3, f4, f5, f6, f7, f8, f9⟩ := hB.ofz
  simp only [ob0] at a0 a1 a2 a3 a4 a5 a6 a7 a8 a9
  unfold put10 at HP
  clear hB
  go_enter Try.func58, Try.ntmps58
  go_wp2
  go_ret
  exact ⟨rfl, HP.out⟩
theorem three_obj (w : World) (r : Rf) {w2 : World} (h : ((w.alloc (.cells (rfc r) 34)).alloc (.cells (obc ob0) 53)).alloc (.cells (obc ob0) 53) = w2) :
    Bk w2 w.heap.size 34 (rfc r) ∧ Bk w2 (w.heap.size + 1) 53 (obc ob0) ∧ Bk w2 (w.heap.size + 2) 53 (obc ob0) ∧ w2.heap.size = w.heap.size + 3 ∧ Below w.heap.size w w2 := by
  obtain ⟨w1, hw1⟩ : ∃ w1, (w.alloc (.cells (rfc r) 34)).alloc (.cells (obc ob0) 53) = w1 := ⟨_, rfl⟩
  rw [hw1] at h
  obtain ⟨h1, h2, h3, h4⟩ := two_boxes w _ _ _ _ hw1
  subst h
  have hb : Below w1.heap.size w1 (w1.alloc (.cells (obc ob0) 53)) := bel_new _ _
  have h5 := Bk.new w1 53 (obc ob0)
  rw [h3] at h5
  exact ⟨h1.below hb, h2.below hb, h5, by simp [h3], bel2 h4 hb⟩
/-- What Object gives. -/
def ObjV (H : Hp) (r : Rf) (w : World) (e : Ending) (w' : World) : Prop := e = .returned (.tuple #[obv (H.obj r), .int .i64 (H.chk r)]) ∧ Below w.heap.size w w'
set_option maxHeartbeats 2000000 in
theorem object_ok (b p t : Nat) (H : Hp) (r : Rf) (w : World) (h : HW w b p t H) : Calls Try.prog 26 #[.pointer (some ⟨b, 0, none⟩), .agg #[.int .i64 r.1, .int .u32 r.2]] w (ObjV H r w) := by
  obtain ⟨s, g⟩ := r
  show Calls _ _ #[_, .agg #[.int .i64 s, .int .u32 g]] w _
  obtain ⟨w2, hw2⟩ : ∃ w2, ((w.alloc (.cells (rfc (s, g)) 34)).alloc (.cells (obc ob0) 53)).alloc (.cells (obc ob0) 53) = w2 := ⟨_, rfl⟩
  obtain ⟨k1, k2, k3, k4, k5⟩ := three_obj w (s, g) hw2
  have HK := Lib.hid (And.intro k1 (And.intro k2 (And.intro k3 (And.intro k4 k5))))
  have HH := Lib.hid (h.below k5)
  have HW := Lib.hid hw2
  by_cases hr : H.chk (s, g) = 0
  · obtain ⟨k, e1, hk, hs, e2, e3⟩ := Hp.chk_zero hr
    simp only at e1 e2
    subst e1
    have hobj : H.obj ((k : Int), g) = H.o k := by unfold Hp.obj Hp.at_; rw [if_pos hr, e3]
    have CL : Hid (∀ W, Below w2.heap.size w2 W → Calls Try.prog 58 #[.pointer (some ⟨p, 1 + k * 10, none⟩), .pointer (some ⟨w.heap.size + 2, 0, none⟩)] W fun e w' => e = .returned (.int .i64 0) ∧ (Bk w' (w.heap.size + 2) 53 (obc (H.o k)) ∧ Kept (· = w.heap.size + 2) W w')) := fun W hW => object1_ok _ p _ _ W ((HH.out.below hW).ten hk hs) (k3.below hW)
    have FO := Lib.hid (found_obj b p t k H g _ 0 _ w2 HH.out hk hr CL.out)
    have HV : Hid (obv (H.obj ((k : Int), g)) = .agg (obc (H.o k))) := by unfold Hid; rw [hobj]; rfl
    unfold ObjV
    rw [hr, HV.out]
    clear h k1 k2 k3 k4 k5 hw2 hr hobj CL hk hs e2 e3 HV HH
    generalize H.o k = o at *
    simp only [rfc, obc, ob0] at HW ⊢
    go_enter Try.func26, Try.ntmps26
    go_upto_region 2 with fail
    rw [HW.out]
    obtain ⟨r0, r1⟩ := HK.out.1.rf
    simp only at r0 r1
    go_wp2_with (go_at_call 41; refine FO.out.mono ?_; rintro e w6 ⟨rfl, W, hb, hB, hK⟩; obtain ⟨a0, a1, a2, a3, a4, a5, a6, a7, a8, a9⟩ := hB.ob; obtain ⟨c0, c1, c2, c3, c4, c5, c6, c7, c8, c9⟩ := ((HK.out.2.1.below hb).kept hK (by omega)).ob; obtain ⟨f0, f1, f2, f3, f4, f5, f6, f7, f8, f9⟩ := ((HK.out.2.1.below hb).kept hK (by omega)).ofz; simp only [ob0] at c0 c1 c2 c3 c4 c5 c6 c7 c8 c9; have HB6 : Hid (Below w.heap.size w w6) := HK.out.2.2.2.2.trans ((hb.mono HK.out.2.2.2.2.size).trans (hK.below (by have := HK.out.2.2.2.1; have := hb.size; omega) (fun k e => by omega))); clear hB hK hb)
    refine bodyPost_ret (v := .tuple #[.agg #[.int .i64 o.n, .int .i64 o.a.1, .int .u32 o.a.2, .int .i64 o.b.1, .int .u32 o.b.2, .int .i64 o.c.1, .int .u32 o.c.2, .int .i64 o.d.1, .int .u32 o.d.2, .bool o.h], .int .i64 0]) ?_ rfl ⟨rfl, ?_⟩
    · rw [results_cell_tmp rfl]
      go_simp
    · exact bel10 HB6.out (by omega) _ _ _ _ _ _ _ _ _ _
  · have hobj : H.obj (s, g) = ob0 := by unfold Hp.obj; rw [if_neg hr]
    have FO := Lib.hid (found_err b p t H (s, g) hr (.func (.func 58) #[] #[.pointer (some ⟨w.heap.size + 2, 0, none⟩)]) w2 HH.out)
    unfold ObjV
    rw [hobj]
    obtain ⟨E, hE⟩ : ∃ E, H.chk (s, g) = E := ⟨_, rfl⟩
    rw [hE] at FO ⊢
    simp only [obv, rfc, obc, ob0] at HW FO ⊢
    clear h k1 k2 k3 k4 k5 hw2 hr hobj hE HH
    go_enter Try.func26, Try.ntmps26
    go_upto_region 2 with fail
    rw [HW.out]
    obtain ⟨r0, r1⟩ := HK.out.1.rf
    simp only at r0 r1
    go_wp2_with (go_at_call 41; refine FO.out.mono ?_; rintro e w6 ⟨rfl, hb⟩; obtain ⟨a0, a1, a2, a3, a4, a5, a6, a7, a8, a9⟩ := (HK.out.2.2.1.below hb).ob; obtain ⟨c0, c1, c2, c3, c4, c5, c6, c7, c8, c9⟩ := (HK.out.2.1.below hb).ob; obtain ⟨f0, f1, f2, f3, f4, f5, f6, f7, f8, f9⟩ := (HK.out.2.1.below hb).ofz; simp only [ob0] at a0 a1 a2 a3 a4 a5 a6 a7 a8 a9 c0 c1 c2 c3 c4 c5 c6 c7 c8 c9; have HB6 := Lib.hid (bel2 HK.out.2.2.2.2 hb); clear hb)
    refine bodyPost_ret (v := .tuple #[.agg #[.int .i64 0, .int .i64 0, .int .u32 0, .int .i64 0, .int .u32 0, .int .i64 0, .int .u32 0, .int .i64 0, .int .u32 0, .bool false], .int .i64 E]) ?_ rfl ⟨rfl, ?_⟩
    · rw [results_cell_tmp rfl]
      go_simp
    · exact bel10 HB6.out (by omega) _ _ _ _ _ _ _ _ _ _
/-- Object's contract, its cells written out. -/
theorem object_at (b p t : Nat) (H : Hp) (s g : Int) (o : Ob) (E : Int) (ho : H.obj (s, g) = o) (hE : H.chk (s, g) = E) (w : World) (h : HW w b p t H) : ∀ W, Below w.heap.size w W → Calls Try.prog 26 #[.pointer (some ⟨b, 0, none⟩), .agg #[.int .i64 s, .int .u32 g]] W fun e w' =>
    e = .returned (.tuple #[.agg #[.int .i64 o.n, .int .i64 o.a.1, .int .u32 o.a.2, .int .i64 o.b.1, .int .u32 o.b.2, .int .i64 o.c.1, .int .u32 o.c.2, .int .i64 o.d.1, .int .u32 o.d.2, .bool o.h], .int .i64 E]) ∧ Below W.heap.size W w' := fun W hW => by
  have := object_ok b p t H (s, g) W (h.below hW)
  unfold ObjV at this
  rw [ho, hE] at this
  exact this
set_option maxHeartbeats 1000000 in
theorem has_ok (b p t : Nat) (H : Hp) (r : Rf) (w : World) (h : HW w b p t H) : Calls Try.prog 27 #[.pointer (some ⟨b, 0, none⟩), .agg #[.int .i64 r.1, .int .u32 r.2]] w fun e w' => e = .returned (.bool (H.chk r == 0)) ∧ Below w.heap.size w w' := by
  obtain ⟨s, g⟩ := r
  show Calls _ _ #[_, .agg #[.int .i64 s, .int .u32 g]] w _
  obtain ⟨o, ho⟩ : ∃ o, H.obj (s, g) = o := ⟨_, rfl⟩
  obtain ⟨E, hE⟩ : ∃ E, H.chk (s, g) = E := ⟨_, rfl⟩
  have OB := Lib.hid (object_at b p t H s g o E ho hE w h)
  rw [hE]
  clear h ho hE
  go_enter Try.func27, Try.ntmps27
  go_wp2_with (go_at_call 26; refine (OB.out _ (bel_new _ _)).mono ?_; rintro e w6 ⟨rfl, hb⟩; have HB := Lib.hid (bel2 (bel_new _ _) hb); clear hb)
  go_ret
  exact ⟨rfl, HB.out.alloc HB.out.size _⟩
set_option maxHeartbeats 1000000 in
theorem storable_ok (b p t : Nat) (H : Hp) (r : Rf) (w : World) (h : HW w b p t H) : Calls Try.prog 49 #[.pointer (some ⟨b, 0, none⟩), .agg #[.int .i64 r.1, .int .u32 r.2]] w fun e w' => e = .returned (.int .i64 (H.vE r)) ∧ Below w.heap.size w w' := by
  obtain ⟨s, g⟩ := r
  show Calls _ _ #[_, .agg #[.int .i64 s, .int .u32 g]] w _
  by_cases hz : (s, g) = ((0, 0) : Rf)
  · have hv : H.vE (s, g) = 0 := by unfold Hp.vE; rw [if_pos hz]
    rw [hv]
    obtain ⟨rfl, rfl⟩ := Prod.mk.inj hz
    clear h hz hv
    go_enter Try.func49, Try.ntmps49
    go_wp2
    go_ret
    exact ⟨rfl, bel_new _ _⟩
  · have hv : H.vE (s, g) = H.chk (s, g) := by unfold Hp.vE; rw [if_neg hz]
    rw [hv]
    obtain ⟨o, ho⟩ : ∃ o, H.obj (s, g) = o := ⟨_, rfl⟩
    obtain ⟨E, hE⟩ : ∃ E, H.chk (s, g) = E := ⟨_, rfl⟩
    have OB := Lib.hid (object_at b p t H s g o E ho hE w h)
    rw [hE]
    clear h ho hE hv
    by_cases h0 : s = 0
    · subst h0
      have h1 : (g == 0) = false := by
        rw [beq_eq_false_iff_ne]; rintro rfl; exact hz rfl
      clear hz
      go_enter Try.func49, Try.ntmps49
      go_wp2_with (go_at_call 26; refine (OB.out _ (bel_new _ _)).mono ?_; rintro e w6 ⟨rfl, hb⟩; have HB := Lib.hid (bel2 (bel_new _ _) hb); clear hb)
      go_ret
      exact ⟨rfl, HB.out.alloc HB.out.size _⟩
    · have h1 : (s == 0) = false := by rw [beq_eq_false_iff_ne]; exact h0
      clear hz h0
      go_enter Try.func49, Try.ntmps49
      go_wp2_with (go_at_call 26; refine (OB.out _ (bel_new _ _)).mono ?_; rintro e w6 ⟨rfl, hb⟩; have HB := Lib.hid (bel2 (bel_new _ _) hb); clear hb)
      go_ret
      exact ⟨rfl, HB.out.alloc HB.out.size _⟩
/-! ### a heap that is not valid -/
set_option maxHeartbeats 1000000 in
theorem found_no (v : Option Addr) (r : Rf) (f : Value) (w : World) (h : HNo w v) : Calls Try.prog 41 #[.pointer v, .agg #[.int .i64 r.1, .int .u32 r.2], f] w fun e w' => e = .returned (.int .i64 1) ∧ Below w.heap.size w w' := by
  obtain ⟨s, g⟩ := r
  show Calls _ _ #[_, .agg #[.int .i64 s, .int .u32 g], _] w _
  have HT : Hid (∀ W, Below w.heap.size w W → Calls Try.prog 59 #[.pointer v] W fun e w' => e = .returned (.pointer none) ∧ W = w') := fun W hW => htable_no v W (h.below hW)
  have CK : Hid (∀ W, Calls Try.prog 68 #[.pointer none, .agg #[.int .i64 s, .int .u32 g]] W fun e w' => e = .returned (.int .i64 1) ∧ Below W.heap.size W w') := fun W => check_inv none s g W (.inl rfl)
  have S0 : (w.alloc (.cells #[.int .i64 s, .int .u32 g] 34)).cell? ⟨w.heap.size, 0, none⟩ = some (.int .i64 s) ∧ (w.alloc (.cells #[.int .i64 s, .int .u32 g] 34)).cell? ⟨w.heap.size, 1, none⟩ = some (.int .u32 g) := by
    have hn := Bk.new w 34 #[.int .i64 s, .int .u32 g]
    exact ⟨hn.cell 0, hn.cell 1⟩
  have B0 := Lib.hid (bel_drew (bel_new w (.cells #[.int .i64 s, .int .u32 g] 34)))
  clear h
  go_enter Try.func41, Try.ntmps41
  go_upto_region 1 with fail
  generalize (w.alloc (.cells #[.int .i64 s, .int .u32 g] 34)) = w4 at *
  obtain ⟨s2, s3⟩ := S0
  go_region_held3 (fun W => W.cell? ⟨w.heap.size, 0, none⟩ = some (.int .i64 s) ∧ W.cell? ⟨w.heap.size, 1, none⟩ = some (.int .u32 g)) (first | (exact ⟨s2, s3⟩) | (with_reducible exact hz1)) (first
    | (go_at_call 59; refine (HT.out w4.drew B0.out).mono ?_; rintro e w5 ⟨rfl, rfl⟩; have hz1 := And.intro s2 s3)
    | (go_at_call 68; (with_reducible refine (CK.out _).mono ?_); rintro e w5 ⟨rfl, hb5⟩; have HB5 := Lib.hid (bel2 B0.out hb5); have hz1 := And.intro (cell_stays hb5 s2) (cell_stays hb5 s3); clear hb5))
  all_goals
    go_wp2
    go_ret
    exact ⟨rfl, HB5.out⟩
end Go.Proofs.Ytfnhkapbfgofkaa
