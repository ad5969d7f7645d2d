/- The contract of the program's Check. -/
import Derived.Test.YtfnhkapbfgofkaaNb
namespace Go.Proofs.Ytfnhkapbfgofkaa
open Go.RowKit Go.Shelf
attribute [local go_sem] Oper.semAt_some

def NoPlace (o : Ob) : Prop := o.n < 0 ∨ 4 < o.n ∨ (o.h = true ∧ o.n ≠ 0)
set_option maxHeartbeats 1000000 in
theorem chk_a (o : Ob) (h : NoPlace o) (w : World) : Calls Try.prog 64 #[obv o] w fun e w' => e = .returned (.int .i64 2) ∧ Below w.heap.size w w' := by
  obtain ⟨n, ⟨s0, g0⟩, ⟨s1, g1⟩, ⟨s2, g2⟩, ⟨s3, g3⟩, hd⟩ := o
  simp only [NoPlace] at h
  have h2 : n < 0 ∨ 4 < n ∨ (hd = true ∧ (n != 0) = true ∧ 0 ≤ n ∧ n ≤ 4) := by
    rcases h with h | h | h
    · exact .inl h
    · exact .inr (.inl h)
    · by_cases h1 : n < 0
      · exact .inl h1
      · by_cases h4 : 4 < n
        · exact .inr (.inl h4)
        · exact .inr (.inr ⟨h.1, by simpa using h.2, by omega, by omega⟩)
  clear h
  show Calls _ _ #[.agg #[.int .i64 n, .int .i64 s0, .int .u32 g0, .int .i64 s1, .int .u32 g1, .int .i64 s2, .int .u32 g2, .int .i64 s3, .int .u32 g3, .bool hd]] _ _
  rcases h2 with h2 | h2 | ⟨rfl, h1, h2, h3⟩
  all_goals
    go_enter Try.func64, Try.ntmps64
    go_wp2
    refine bodyPost_ret (v := .int .i64 2) (by simp [results, Try.f64, go_sem]) rfl ⟨rfl, ?_⟩
    exact ((Below.refl _ w).alloc (Nat.le_refl _) _).alloc (by simp) _

theorem keeps_below {a b : World} (h : Below a.heap.size a b) : KeepsOthers a b := ⟨h.size, fun k _ hk _ => (h.block k (Array.getElem?_eq_some_iff.1 hk).1).trans hk⟩
theorem chk_boxes (w : World) (o : Ob) {w1 : World} (h : ((w.alloc (.cells (obc o) 53)).alloc (.cells #[.int .i64 0] 26)).alloc (.cells (obc o) 53) = w1) :
    Bk w1 w.heap.size 53 (obc o) ∧ Bk w1 (w.heap.size + 1) 26 #[.int .i64 0] ∧ Bk w1 (w.heap.size + 2) 53 (obc o) ∧ w1.heap.size = w.heap.size + 3 ∧ Below w.heap.size w w1 := by
  subst h
  have e1 : (w.alloc (.cells (obc o) 53)).heap.size = w.heap.size + 1 := by simp
  have e2 : ((w.alloc (.cells (obc o) 53)).alloc (.cells #[.int .i64 0] 26)).heap.size = w.heap.size + 2 := by simp
  have b1 := Bk.new w 53 (obc o)
  have b2 := Bk.new (w.alloc (.cells (obc o) 53)) 26 #[.int .i64 0]
  have b3 := Bk.new ((w.alloc (.cells (obc o) 53)).alloc (.cells #[.int .i64 0] 26)) 53 (obc o)
  rw [e1] at b2
  rw [e2] at b3
  refine ⟨(b1.same (Below.heap_alloc _ _ _ (by omega))).same (Below.heap_alloc _ _ _ (by omega)), b2.same (Below.heap_alloc _ _ _ (by omega)), b3, by simp, (((Below.refl _ w).alloc (Nat.le_refl _) _).alloc (by omega) _).alloc (by omega) _⟩
/-- A field that is as it has to be. -/
def Good (o : Ob) (x : Nat) : Prop := (x : Int) < o.n ∧ RfOk (o.fld x)
theorem mem_selF {o : Ob} {x : Nat} : x ∈ selF o 0 ↔ x < 4 ∧ o.fld x ≠ (0, 0) := by
  unfold selF
  rw [List.mem_filter, List.mem_range'_1]
  have : (!noneB (o.fld x)) = true ↔ o.fld x ≠ (0, 0) := by
    rw [Bool.not_eq_true']
    exact ⟨fun h e => (by rw [noneB_iff.2 e] at h; cases h), noneB_no⟩
  rw [this]
  exact and_congr_left' ⟨fun h => by omega, fun h => by omega⟩
theorem poss_of {o : Ob} (h0 : 0 ≤ o.n) (h4 : o.n ≤ 4) (hh : o.h = true → o.n = 0) (hg : ∀ x ∈ selF o 0, Good o x) : Poss o := by
  refine ⟨h0, h4, hh, fun j hj => ?_, fun j hj hn => ?_⟩
  · by_cases e : o.fld j = (0, 0)
    · rw [e]; exact rfok_none
    · exact (hg j (mem_selF.2 ⟨hj, e⟩)).2
  · by_cases e : o.fld j = (0, 0)
    · exact e
    · have := (hg j (mem_selF.2 ⟨hj, e⟩)).1
      omega
theorem good_of {o : Ob} (h : Poss o) {x : Nat} (hx : x ∈ selF o 0) : Good o x := by
  obtain ⟨h4, h0⟩ := mem_selF.1 hx
  refine ⟨?_, h.ok x h4⟩
  by_cases e : (x : Int) < o.n
  · exact e
  · exact absurd (h.em x h4 (by omega)) h0
theorem Rg.any {o : Ob} (h : Rg o) (x : Nat) : Rr (o.fld x) := by
  match x with
  | 0 => exact h.f 0 (by omega)
  | 1 => exact h.f 1 (by omega)
  | 2 => exact h.f 2 (by omega)
  | _ + 3 => exact h.f 3 (by omega)

/-- While Check's loop has found nothing; when it has. -/
def CkI (w : World) (o : Ob) (pre : List Nat) (W : World) : Prop := (∀ x ∈ pre, Good o x) ∧ (Bk W w.heap.size 53 (obc o) ∧ Bk W (w.heap.size + 1) 26 #[.int .i64 0] ∧ w.heap.size + 3 ≤ W.heap.size) ∧ Below w.heap.size w W
def CkX (w : World) (o : Ob) (c : Code) (pre : List Nat) (W : World) : Prop := c = .ret ∧ (∃ x ∈ pre, ¬ Good o x) ∧ Bk W (w.heap.size + 1) 26 #[.int .i64 2] ∧ Below w.heap.size w W

theorem ckx_end {w W w5 W' : World} {o : Ob} {B x : Nat} {pre : List Nat} (hBW : Below w.heap.size w W) (kE : Bk W (w.heap.size + 1) 26 #[.int .i64 0]) (hb : Below W.heap.size W w5) (hx : ¬ Good o x)
    (e : W' = w5.setCell ⟨w.heap.size + 1, 0, none⟩ (.int .i64 2)) : KeepsFrom B W W' ∧ CkX w o .ret (pre ++ [x]) W' := by
  subst e
  refine ⟨((keeps_below hb).trans (KeepsOthers.setCell _ _ _)).from _, rfl, ⟨x, by simp, hx⟩, (kE.below hb).put 0 _, ?_⟩
  exact (bel2 hBW hb).setCell (p := ⟨w.heap.size + 1, 0, none⟩) (by simp) _

set_option maxRecDepth 100000 in
set_option maxHeartbeats 4000000 in
theorem chk_main (o : Ob) (hr : Rg o) (h0 : 0 ≤ o.n) (h4 : o.n ≤ 4) (hh : o.h = true → o.n = 0) (w : World) : Calls Try.prog 64 #[obv o] w fun e w' => e = .returned (.int .i64 (chk o)) ∧ Below w.heap.size w w' := by
  have HH := Lib.hid hh
  obtain ⟨n, hn⟩ : ∃ n, o.n = n := ⟨_, rfl⟩
  obtain ⟨hd, hhd⟩ : ∃ hd, o.h = hd := ⟨_, rfl⟩
  rw [hn] at h0 h4 hh
  rw [hhd] at hh
  have hh2 : hd = false ∨ (hd = true ∧ n = 0) := by cases hd <;> simp_all
  have HR := Lib.hid hr
  have HN := Lib.hid hn
  refine (callsIn_wide (n := 3)).1 ?_
  refine callsIn_of_wp_marks Try.func64 rfl trivial ?_ rfl
  have HF := Lib.hid (filled_ok o)
  obtain ⟨w3, hw3⟩ : ∃ w3, ((w.alloc (.cells (obc o) 53)).alloc (.cells #[.int .i64 0] 26)).alloc (.cells (obc o) 53) = w3 := ⟨_, rfl⟩
  obtain ⟨hb1, hb2, hb3, hsz, hB⟩ := chk_boxes w o hw3
  have HW3 := Lib.hid hw3
  have HB := Lib.hid (And.intro hb1 (And.intro hb2 (And.intro hb3 (And.intro hsz hB))))
  clear hb1 hb2 hb3 hsz hB hw3
  unfold obv obc at HF ⊢
  unfold obc at HW3
  rw [hn, hhd] at HF HW3 ⊢
  simp only [Try.ntmps64, List.size_toArray, List.length_cons, List.length_nil, Nat.reduceAdd, Nat.reduceSub, Array.replicate_succ, Array.replicate_zero, List.push_toArray, List.append_toArray, List.nil_append, List.cons_append]
  clear hh hn hhd hr
  rcases hh2 with rfl | ⟨rfl, rfl⟩
  all_goals
    gi_wp2_with (refine ⟨trivial, ?_⟩; gi_at_call 74; refine (callsIn_wide.2 (HF.out _)).mono ?_; rintro e w' ⟨rfl, rfl⟩)
    rw [HW3.out]
    obtain ⟨hb1, hb2, hb3, hsz, hB⟩ := HB.out
    refine wpIn_rangeFunc_ownH rfl (by decide) (gf := 81) (lb := #[.pointer (some ⟨w.heap.size + 2, 0, none⟩)]) rfl trivial (enters_of Try.func81 (by kernel_rfl) rfl)
      (fill_stops 2 (by decide) (w.heap.size + 2) o w3 hb3) (fun _ _ => trivial) (fun _ _ _ _ _ _ _ _ => trivial) (Below.refl _ _) (fun _ => rfl)
      (CkI w o) (CkX w o)
      (fun s A B row hs hg hr => by
        obtain ⟨h1, ⟨h2, h3, h6⟩, h5⟩ := hs
        have hr2 := fun r e => (hr r e).2
        exact ⟨h1, ⟨h2.grown hg hr2, h3.grown hg hr2, Nat.le_trans h6 hg.size⟩, ownFrom_below (β := Unit) (Nat.le_refl _) (by omega) () A B row h5 hg hr⟩)
      (fun c s A B row hs hg hr => by
        obtain ⟨h0, h1, h2, h5⟩ := hs
        have hr2 := fun r e => (hr r e).2
        exact ⟨h0, h1, h2.grown hg hr2, ownFrom_below (β := Unit) (Nat.le_refl _) (by omega) () A B row h5 hg hr⟩)
      ⟨(fun _ h => by cases h), ⟨hb1, hb2, by omega⟩, hB⟩
      (fun x a' W => ∃ (B4 : Nat) (v0 v5 v6 v7 v8 v9 v10 v11 v12 v13 v14 v15 v16 v17 v18 v19 v20 v21 v22 v23 v24 v25 v26 v27 v28 v29 v30 v31 v32 v33 v34 : Value), w.heap.size + 3 ≤ B4 ∧ Bk W B4 34 (rfc (o.fld x)) ∧ a' = { tmps := #[v0, .pointer (some ⟨w.heap.size, 0, none⟩), .pointer (some ⟨w.heap.size + 1, 0, none⟩), .int .i64 ((x : Nat) : Int), .pointer (some ⟨B4, 0, none⟩), v5, v6, v7, v8, v9, v10, v11, v12, v13, v14, v15, v16, v17, v18, v19, v20, v21, v22, v23, v24, v25, v26, v27, v28, v29, v30, v31, v32, v33, v34], defers := [] })
      (fun x a' => fun s W W' row hs hg hr => by
        obtain ⟨B4, v0, v5, v6, v7, v8, v9, v10, v11, v12, v13, v14, v15, v16, v17, v18, v19, v20, v21, v22, v23, v24, v25, v26, v27, v28, v29, v30, v31, v32, v33, v34, h1, h2, h3⟩ := hs
        exact ⟨B4, v0, v5, v6, v7, v8, v9, v10, v11, v12, v13, v14, v15, v16, v17, v18, v19, v20, v21, v22, v23, v24, v25, v26, v27, v28, v29, v30, v31, v32, v33, v34, h1, h2.grown hg (fun r e => (hr r e).2), h3⟩) ?assign ?body ?done ?stop
    case assign =>
      rintro l pre x W K ⟨hgd, ⟨kO, kE, ksz⟩, hBW⟩ hK
      have HK := Lib.hid hK
      clear hK
      unfold encF rfv rfc
      gi_wp2
      have hal : Below W.heap.size W (W.alloc (.cells (rfc (o.fld x)) 34)) := (Below.refl _ W).alloc (Nat.le_refl _) _
      exact HK.out _ _ ((KeepsOthers.alloc W _).from _) trivial (show CkI w o pre _ from ⟨hgd, ⟨kO.below hal, kE.below hal, Nat.le_trans ksz hal.size⟩, bel2 hBW hal⟩) ⟨W.heap.size, _, _, _, _, _, _, _, _, _, _, _, _, _, _, _, _, _, _, _, _, _, _, _, _, _, _, _, _, _, _, _, ksz, Bk.new W _ _, rfl⟩
    case body =>
      rintro l pre x a' W _ _ ⟨hgd, ⟨kO, kE, ksz⟩, hBW⟩ ⟨B4, v0, v5, v6, v7, v8, v9, v10, v11, v12, v13, v14, v15, v16, v17, v18, v19, v20, v21, v22, v23, v24, v25, v26, v27, v28, v29, v30, v31, v32, v33, v34, hB4, hbk, rfl⟩ hlt2
      have cn := (kO.cell 0).trans (obc_n o)
      rw [HN.out] at cn
      have fE := kE.frozen 0
      have cE := kE.cell 0
      have c0 := hbk.cell 0
      have c1 := hbk.cell 1
      simp only [rfc, List.getElem?_toArray, List.getElem?_cons_zero, List.getElem?_cons_succ] at c0 c1 cE
      have HX := Lib.hid (And.intro hgd (And.intro kO (And.intro kE (And.intro ksz hBW))))
      have hRr := HR.out.any x
      have HRr := Lib.hid hRr
      clear hgd kO kE hbk hRr hlt2
      have HEX := Lib.hid (fun h : ¬ Good o x => fun w5 W' (hb : Below W.heap.size W w5) (e : W' = w5.setCell ⟨w.heap.size + 1, 0, none⟩ (.int .i64 2)) => ckx_end (B := w3.heap.size) (pre := pre) (o := o) (x := x) HX.out.2.2.2.2 HX.out.2.2.1 hb h e)
      by_cases hx : (x : Int) < o.n
      · first
        | (exfalso; rw [HN.out] at hx; omega)
        | (by_cases hok : RfOk (o.fld x)
           · have HC := Lib.hid (rcheck_ok (o.fld x) HRr.out hok)
             have HG : Hid (Good o x) := ⟨hx, hok⟩
             rw [HN.out] at hx
             unfold rfv rfc at HC
             clear hok HEX
             gi_wp2_with (refine ⟨trivial, ?_⟩; gi_at_call 71; refine (callsIn_wide.2 (HC.out _)).mono ?_; rintro e w5 ⟨rfl, hb5⟩)
             obtain ⟨hgd, kO, kE, _, _⟩ := HX.out
             refine ⟨(keeps_below hb5).from _, trivial, fun y hy => ?_, ⟨kO.below hb5, kE.below hb5, Nat.le_trans ksz hb5.size⟩, bel2 hBW hb5⟩
             rcases List.mem_append.1 hy with hy | hy
             · exact hgd y hy
             · obtain rfl := List.mem_singleton.1 hy
               exact HG.out
           · have HC := Lib.hid (rcheck_bad (o.fld x) HRr.out hok)
             have HE2 := Lib.hid (HEX.out fun h => hok h.2)
             rw [HN.out] at hx
             unfold rfv rfc at HC
             clear hok HEX
             have HKC := Lib.hid (fun w5 (hb5 : Below W.heap.size W w5) => And.intro ((bcell hb5).1 (w.heap.size + 1) 0 (by omega)) ((bcell hb5).2 (w.heap.size + 1) 0 (by omega)))
             gi_wp2_with (refine ⟨trivial, ?_⟩; gi_at_call 71; refine (callsIn_wide.2 (HC.out _)).mono ?_; rintro e w5 ⟨rfl, hb5⟩; obtain ⟨k1, k2⟩ := HKC.out w5 hb5; rw [cE] at k1; rw [fE] at k2)
             exact HE2.out w5 _ hb5 rfl)
      · have HE2 := Lib.hid (HEX.out fun h => hx h.1)
        rw [HN.out] at hx
        clear HEX
        gi_wp2
        refine ⟨trivial, ?_⟩
        gi_wp2
        exact HE2.out W _ (Below.refl _ _) rfl
    case done =>
      rintro D ys W hD hys ⟨hgd, ⟨kO, kE, ksz⟩, hBW⟩ hK
      have HP : Hid (chk o = 0) := chk_ok (poss_of (by rw [HN.out]; omega) (by rw [HN.out]; omega) HH.out (fun x hx => hgd x (by rw [hys]; exact hx)))
      have cE := kE.cell 0
      have fE := kE.frozen 0
      simp only [List.getElem?_toArray, List.getElem?_cons_zero] at cE
      clear hys hgd
      gi_wp2
      obtain ⟨Z, hZ⟩ : ∃ Z, W.setCell ⟨w.heap.size + 1, 0, none⟩ (.int .i64 0) = Z := ⟨_, rfl⟩
      have hK' : Z.heap[D]? = some (.deferred (some [])) := by rw [← hZ]; exact (KeepsOthers.setCell _ _ _).same D _ hK rfl
      have he : Bk Z (w.heap.size + 1) 26 #[.int .i64 0] := by rw [← hZ]; exact kE.put 0 (.int .i64 0)
      have hBZ : Below w.heap.size w Z := by rw [← hZ]; exact hBW.setCell (p := ⟨w.heap.size + 1, 0, none⟩) (by simp) _
      rw [hZ]
      have hg := grownBy_putObj' Z D (.deferred none)
      have he2 := he.grown hg (fun r e => by cases e; exact ⟨_, hK', rfl⟩)
      have c2 := he2.cell 0
      simp only [List.getElem?_toArray, List.getElem?_cons_zero] at c2
      have hBF : Below w.heap.size w (Z.putObj D (.deferred none)) := hBZ.trans (belowK_b (w := w) (Nat.le_refl _) _ D _ _ (by omega) hK' rfl rfl)
      refine ⟨by simp, .inl ⟨_, _, rfl, run_takeDeferred hK', ?_⟩⟩
      refine ⟨.int .i64 0, ?_, by rw [HP.out], hBF⟩
      clear he2 he hZ hK' hBZ hBF hg kO kE cE fE
      simp [results, Try.f64, go_sem, c2]
    case stop =>
      rintro D c pre W hD hpre ⟨rfl, ⟨x, hx, hbad⟩, kE, hBW⟩ hK
      have HP : Hid (chk o = 2) := chk_bad fun hp => hbad (good_of hp (hpre.subset hx))
      clear hpre hbad
      gi_wp2
      have hg := grownBy_putObj' W D (.deferred none)
      have he2 := kE.grown hg (fun r e => by cases e; exact ⟨_, hK, rfl⟩)
      have c2 := he2.cell 0
      simp only [List.getElem?_toArray, List.getElem?_cons_zero] at c2
      refine ⟨by simp, .inl ⟨_, _, rfl, run_takeDeferred hK, ?_⟩⟩
      refine ⟨.int .i64 2, ?_, by rw [HP.out], hBW.trans (belowK_b (w := w) (Nat.le_refl _) _ D _ _ (by omega) hK rfl rfl)⟩
      clear he2 hg kE
      simp [results, Try.f64, go_sem, c2]
theorem check_anyF (o : Ob) (hr : Rg o) (w : World) : Calls Try.prog 64 #[obv o] w fun e w' => e = .returned (.int .i64 (chk o)) ∧ Below w.heap.size w w' := by
  by_cases h : NoPlace o
  · rw [chk_bad (fun hp => by
      have := hp.n0
      have := hp.n4
      rcases h with h | h | h
      · omega
      · omega
      · exact h.2 (hp.hh h.1))]
    exact chk_a o h w
  · unfold NoPlace at h
    refine chk_main o hr ?_ ?_ (fun hh => ?_) w
    · exact Int.not_lt.1 fun e => h (.inl e)
    · exact Int.not_lt.1 fun e => h (.inr (.inl e))
    · exact Classical.byContradiction fun e => h (.inr (.inr ⟨hh, e⟩))
end Go.Proofs.Ytfnhkapbfgofkaa
