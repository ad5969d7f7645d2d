/- The contract of the program's Next. -/
import Derived.Test.YtlnjgbdekcgmpaaEh
namespace Go.Proofs.Ytlnjgbdekcgmpaa
open Go.RowKit Go.Shelf
attribute [local go_sem] Oper.semAt_some

theorem Bk.grown {w w' : World} {g : Nat} {t : TypeId} {cs : Array Value} {row : Option Nat} (h : Bk w g t cs) (hg : w.grownBy w' row) (hr : ∀ r, row = some r → ∃ o, w.heap[r]? = some o ∧ o.isCells = false) : Bk w' g t cs := by
  refine (hg.block g h.lt fun e => ?_).trans h
  obtain ⟨o, ho, hc⟩ := hr g e.symm
  rw [show w.heap[g]? = _ from h] at ho
  cases ho
  cases hc
theorem Bk.up {w : World} {g : Nat} {t : TypeId} {cs : Array Value} (h : Bk w g t cs) (o : Obj) : Bk (w.alloc o) g t cs := h.same (Below.heap_alloc _ _ _ h.lt)
theorem boxes3 (w : World) {w1 : World} (h : ((w.alloc (.cells #[.int .i64 0] 3)).alloc (.cells #[.int .i64 0] 2)).alloc (.cells #[.bool false] 4) = w1) :
    Bk w1 w.heap.size 3 #[.int .i64 0] ∧ Bk w1 (w.heap.size + 1) 2 #[.int .i64 0] ∧ Bk w1 (w.heap.size + 2) 4 #[.bool false] ∧ w1.heap.size = w.heap.size + 3 ∧ Below w.heap.size w w1 := by
  subst h
  have b1 := Bk.new w 3 #[.int .i64 0]
  have b2 := Bk.new (w.alloc (.cells #[.int .i64 0] 3)) 2 #[.int .i64 0]
  have b3 := Bk.new ((w.alloc (.cells #[.int .i64 0] 3)).alloc (.cells #[.int .i64 0] 2)) 4 #[.bool false]
  simp only [World.size_alloc] at b2 b3
  exact ⟨(b1.up _).up _, b2.up _, b3, by simp, (((Below.refl _ w).alloc (Nat.le_refl _) _).alloc (by simp) _).alloc (by simp; omega) _⟩
theorem bel_b {w W : World} (hB : Below w.heap.size w W) (N : Nat) (hN : w.heap.size ≤ N) (D : Nat) (o' : Obj) (hD : N ≤ D) {o : Obj} (h : W.heap[D]? = some o) (h1 : o.isCells = false) (h2 : o.isWalk = false) : Below w.heap.size w (W.putObj D o') :=
  hB.trans (belowK_b (w := w) (Nat.le_refl _) W D _ _ (by omega) h h1 h2)

/-- What Next says of the entries L. -/
def NextV (L : List En) (w : World) (e : Ending) (w' : World) : Prop :=
  e = .returned (.tuple #[.int .i64 (L.headD (0, 0)).1, .int .i64 (L.headD (0, 0)).2, .bool !L.isEmpty]) ∧ Below w.heap.size w w'
def NextI (w : World) (pre : List En) (W : World) : Prop :=
  pre = [] ∧ (Bk W w.heap.size 3 #[.int .i64 0] ∧ Bk W (w.heap.size + 1) 2 #[.int .i64 0] ∧ Bk W (w.heap.size + 2) 4 #[.bool false]) ∧ Below w.heap.size w W
def NextX (w : World) (c : Code) (pre : List En) (W : World) : Prop :=
  c = .ret ∧ ∃ x : En, pre = [x] ∧ (Bk W w.heap.size 3 #[.int .i64 x.1] ∧ Bk W (w.heap.size + 1) 2 #[.int .i64 x.2] ∧ Bk W (w.heap.size + 2) 4 #[.bool true]) ∧ Below w.heap.size w W
/-- Three numbers stored. -/
def st3 (W : World) (N : Nat) (x : En) (f : Bool) : World := ((W.setCell ⟨N, 0, none⟩ (.int .i64 x.1)).setCell ⟨N + 1, 0, none⟩ (.int .i64 x.2)).setCell ⟨N + 2, 0, none⟩ (.bool f)
theorem st3_facts {w W : World} {x y : En} {f g : Bool} (hB : Below w.heap.size w W) (h1 : Bk W w.heap.size 3 #[.int .i64 y.1]) (h2 : Bk W (w.heap.size + 1) 2 #[.int .i64 y.2]) (h3 : Bk W (w.heap.size + 2) 4 #[.bool g]) :
    (Bk (st3 W w.heap.size x f) w.heap.size 3 #[.int .i64 x.1] ∧ Bk (st3 W w.heap.size x f) (w.heap.size + 1) 2 #[.int .i64 x.2] ∧ Bk (st3 W w.heap.size x f) (w.heap.size + 2) 4 #[.bool f]) ∧ Below w.heap.size w (st3 W w.heap.size x f) ∧ KeepsOthers W (st3 W w.heap.size x f) := by
  unfold st3
  have e1 := h1.put 0 (.int .i64 x.1)
  have f2 : Bk (W.setCell ⟨w.heap.size, 0, none⟩ (.int .i64 x.1)) (w.heap.size + 1) 2 #[.int .i64 y.2] := h2.same (Below.heap_setCell _ _ _ _ (by simp))
  have f3 : Bk (W.setCell ⟨w.heap.size, 0, none⟩ (.int .i64 x.1)) (w.heap.size + 2) 4 #[.bool g] := h3.same (Below.heap_setCell _ _ _ _ (by simp))
  have e2 := f2.put 0 (.int .i64 x.2)
  have g3 := f3.same (w' := (W.setCell ⟨w.heap.size, 0, none⟩ (.int .i64 x.1)).setCell ⟨w.heap.size + 1, 0, none⟩ (.int .i64 x.2)) (Below.heap_setCell _ _ _ _ (by simp))
  have g1 := e1.same (w' := (W.setCell ⟨w.heap.size, 0, none⟩ (.int .i64 x.1)).setCell ⟨w.heap.size + 1, 0, none⟩ (.int .i64 x.2)) (Below.heap_setCell _ _ _ _ (by simp))
  refine ⟨⟨g1.same (Below.heap_setCell _ _ _ _ (by simp)), e2.same (Below.heap_setCell _ _ _ _ (by simp)), g3.put 0 (.bool f)⟩, ?_, ?_⟩
  · exact ((hB.setCell (p := ⟨_, 0, none⟩) (Nat.le_refl _) _).setCell (p := ⟨_, 0, none⟩) (by simp) _).setCell (p := ⟨_, 0, none⟩) (by simp) _
  · exact ((KeepsOthers.setCell _ _ _).trans (KeepsOthers.setCell _ _ _)).trans (KeepsOthers.setCell _ _ _)

set_option maxRecDepth 100000 in
set_option maxHeartbeats 4000000 in
theorem next_of (a : Option Addr) (L : List En) (Sp : List En → Prop) (N : Nat) (hSp : ∀ pre, Sp pre → pre <+: L) (w : World)
    (hseq : ∀ w2, w2.heap.size = w.heap.size + 4 → Below w.heap.size w w2 → w2.cell? ⟨w.heap.size + 3, 0, none⟩ = some (.pointer a) →
      SeqStopsK Fence.wide 2 Try.prog 42 #[.pointer (some ⟨w.heap.size + 3, 0, none⟩)] encE (KpS (fun _ => False) (w.heap.size + 4)) (fun ys => ys = L) Sp N w2) :
    Calls Try.prog 23 #[.pointer a] w (NextV L w) := by
  have HSEQ := Lib.hid hseq
  have HSP := Lib.hid hSp
  clear hseq hSp
  refine (callsIn_wide (n := 3)).1 ?_
  refine callsIn_of_wp_marks Try.func23 rfl trivial ?_ rfl
  simp only [Try.ntmps23, List.size_toArray, List.length_cons, List.length_nil, Nat.reduceAdd, Nat.reduceSub, Array.replicate_succ, Array.replicate_zero, List.push_toArray, List.append_toArray, List.nil_append, List.cons_append]
  gi_wp2_with (refine ⟨trivial, ?_⟩; gi_at_call 36; refine (callsIn_wide.2 (all_ok _ _)).mono ?_; rintro e w' ⟨rfl, rfl⟩)
  obtain ⟨w1, hw1⟩ : ∃ w1, ((w.alloc (.cells #[.int .i64 0] 3)).alloc (.cells #[.int .i64 0] 2)).alloc (.cells #[.bool false] 4) = w1 := ⟨_, rfl⟩
  obtain ⟨q1, q2, q3, q4, q5⟩ := boxes3 w hw1
  rw [hw1]
  clear hw1
  obtain ⟨w2, hw2⟩ : ∃ w2, w1.alloc (.cells #[.pointer a] 24) = w2 := ⟨_, rfl⟩
  have hx : w2.cell? ⟨w.heap.size + 3, 0, none⟩ = some (.pointer a) := by
    rw [← hw2, ← q4]; exact (Bk.new w1 _ _).cell 0
  have hal : Below w1.heap.size w1 w2 := by rw [← hw2]; exact (Below.refl _ _).alloc (Nat.le_refl _) _
  have hsz : w2.heap.size = w.heap.size + 4 := by rw [← hw2, World.size_alloc, q4]
  have hB0 : Below w.heap.size w w2 := q5.trans (hal.mono (by omega))
  rw [hw2]
  have k1 := q1.below hal
  have k2 := q2.below hal
  have k3 := q3.below hal
  clear hw2 q1 q2 q3 q5
  refine wpIn_rangeFunc_ownG rfl (by decide) (gf := 42) (lb := #[.pointer (some ⟨w.heap.size + 3, 0, none⟩)]) rfl trivial (enters_of Try.func42 (by kernel_rfl) rfl)
    (HSEQ.out w2 hsz hB0 hx) KpS.trans (kpS_b (by omega)) (Below.refl _ _) (fun _ => rfl)
    (NextI w) (NextX w)
    (fun s A B row hs hg hr => by
      obtain ⟨h1, ⟨h2, h3, h4⟩, h5⟩ := hs
      have hr2 := fun r e => (hr r e).2
      exact ⟨h1, ⟨h2.grown hg hr2, h3.grown hg hr2, h4.grown hg hr2⟩, ownFrom_below (β := Unit) (Nat.le_refl _) (by omega) () A B row h5 hg hr⟩)
    (fun c s A B row hs hg hr => by
      obtain ⟨h0, x, h1, ⟨h2, h3, h4⟩, h5⟩ := hs
      have hr2 := fun r e => (hr r e).2
      exact ⟨h0, x, h1, ⟨h2.grown hg hr2, h3.grown hg hr2, h4.grown hg hr2⟩, ownFrom_below (β := Unit) (Nat.le_refl _) (by omega) () A B row h5 hg hr⟩)
    ⟨rfl, ⟨k1, k2, k3⟩, hB0⟩
    (fun x => { tmps := #[.pointer a, undef, .pointer (some ⟨w.heap.size, 0, none⟩), .pointer (some ⟨w.heap.size + 1, 0, none⟩), .pointer (some ⟨w.heap.size + 2, 0, none⟩), .int .i64 x.1, .int .i64 x.2, .pointer a, .func (.func 42) #[] #[.pointer (some ⟨w.heap.size + 3, 0, none⟩)], .int .i64 x.1, .int .i64 x.2, undef, undef], defers := [] }) ?assign ?body ?done ?stop
  case assign =>
    intro l x W K hK
    unfold encE
    gi_wp2
    exact hK
  case body =>
    rintro l pre x W ⟨rfl, ⟨k1, k2, k3⟩, hB⟩ _
    have c1 := k1.cell 0
    have c2 := k2.cell 0
    have c3 := k3.cell 0
    have f1 := k1.frozen 0
    have f2 := k2.frozen 0
    have f3 := k3.frozen 0
    simp only [List.getElem?_toArray, List.getElem?_cons_zero] at c1 c2 c3
    obtain ⟨⟨r1, r2, r3⟩, r4, r5⟩ := st3_facts (x := x) (y := (0, 0)) (f := true) hB k1 k2 k3
    have HR := Lib.hid (show NextX w .ret ([] ++ [x]) (st3 W w.heap.size x true) from ⟨rfl, x, rfl, ⟨r1, r2, r3⟩, r4⟩)
    have H5 := Lib.hid r5
    clear r1 r2 r3 r4 r5 k1 k2 k3
    unfold st3 at HR H5
    gi_wp2
    exact ⟨H5.out.from _, HR.out⟩
  case done =>
    rintro D ys W hD rfl ⟨rfl, ⟨k1, k2, k3⟩, hB⟩ hK
    have c1 := k1.cell 0
    have c2 := k2.cell 0
    have c3 := k3.cell 0
    have f1 := k1.frozen 0
    have f2 := k2.frozen 0
    have f3 := k3.frozen 0
    simp only [List.getElem?_toArray, List.getElem?_cons_zero] at c1 c2 c3
    obtain ⟨⟨r1, r2, r3⟩, r4, r5⟩ := st3_facts (x := ((0, 0) : En)) (y := (0, 0)) (f := false) hB k1 k2 k3
    gi_wp2
    change _ ∧ _
    have hK' := r5.same D _ hK rfl
    have hg := grownBy_putObj' (st3 W w.heap.size ((0, 0) : En) false) D (.deferred none)
    have hgr : ∀ r, some D = some r → ∃ o, (st3 W w.heap.size ((0, 0) : En) false).heap[r]? = some o ∧ o.isCells = false := fun r e => by cases e; exact ⟨_, hK', rfl⟩
    have d1 := (r1.grown hg hgr).cell 0
    have d2 := (r2.grown hg hgr).cell 0
    have d3 := (r3.grown hg hgr).cell 0
    simp only [List.getElem?_toArray, List.getElem?_cons_zero] at d1 d2 d3
    have hb := r4.trans (belowK_b (w := w) (Nat.le_refl _) _ D _ (.deferred none) (by omega) hK' rfl rfl)
    unfold st3 at hK' d1 d2 d3 hb
    refine ⟨by simp, .inl ⟨_, _, rfl, run_takeDeferred hK', ?_⟩⟩
    refine ⟨.tuple #[.int .i64 0, .int .i64 0, .bool false], ?_, rfl, hb⟩
    simp [results, Try.f23, go_sem, d1, d2, d3]
  case stop =>
    rintro D c pre W hD hpre ⟨rfl, x, rfl, ⟨k1, k2, k3⟩, hB⟩ hK
    obtain ⟨r, rfl⟩ := HSP.out _ hpre
    gi_wp2
    have hg := grownBy_putObj' W D (.deferred none)
    have hgr : ∀ r, some D = some r → ∃ o, W.heap[r]? = some o ∧ o.isCells = false := fun r e => by cases e; exact ⟨_, hK, rfl⟩
    have d1 := (k1.grown hg hgr).cell 0
    have d2 := (k2.grown hg hgr).cell 0
    have d3 := (k3.grown hg hgr).cell 0
    simp only [List.getElem?_toArray, List.getElem?_cons_zero] at d1 d2 d3
    refine ⟨by simp, .inl ⟨_, _, rfl, run_takeDeferred hK, ?_⟩⟩
    refine ⟨.tuple #[.int .i64 x.1, .int .i64 x.2, .bool true], ?_, rfl, hB.trans (belowK_b (w := w) (Nat.le_refl _) W D _ _ (by omega) hK rfl rfl)⟩
    simp [results, Try.f23, go_sem, d1, d2, d3]
theorem next_ok (b k m : Nat) (v : Value) (L : List En) (w : World) (h : QW w b k m v L) : Calls Try.prog 23 #[.pointer (some ⟨b, 0, none⟩)] w (NextV L w) :=
  next_of _ L (fun pre => pre <+: L) L.length (fun _ h => h) w fun w2 hsz hB0 hx =>
    all_stops 2 (by decide) (w.heap.size + 3) (w.heap.size + 4) b k m v L _ w2 ⟨h.below hB0, hx, fun g hg => ⟨by have := h.foot_lt hg; omega, id⟩, by omega, id⟩ (by omega)
theorem next_no (p : Option Addr) (w : World) (h : Inv w p) : Calls Try.prog 23 #[.pointer p] w (NextV [] w) :=
  next_of p [] (fun _ => False) 0 (fun _ h => h.elim) w fun w2 _ hB0 hx => stops_inv 2 (by decide) _ p _ w2 (h.below hB0) hx
end Go.Proofs.Ytlnjgbdekcgmpaa
