/- The contracts of the program's first, First and Ended. -/
import Derived.Test.YtenggngcigkakaaGreatDoorHh
namespace Go.Proofs.YtenggngcigkakaaGreatDoor
open Go.RowKit Go.Shelf Go.ChangeShapes
attribute [local go_sem] Oper.semAt_some

def prT (_ : Att) : Bool := true
def prE (a : Att) : Bool := !((a.n : Int) == 2)
theorem t_ok (x : Att) (w : World) : Calls Tryz.prog 57 #[x.val] w fun e w' => e = .returned (.bool (prT x)) ∧ Below w.heap.size w w' := by
  unfold Att.val prT
  go_enter Tryz.func57, Tryz.ntmps57
  go_wp2
  go_ret
  exact ⟨rfl, bel_new _ _⟩
theorem e_ok (x : Att) (w : World) : Calls Tryz.prog 58 #[x.val] w fun e w' => e = .returned (.bool (prE x)) ∧ Below w.heap.size w w' := by
  unfold Att.val prE
  go_enter Tryz.func58, Tryz.ntmps58
  go_wp2
  go_ret
  exact ⟨rfl, bel_new _ _⟩
theorem boxes4 (w : World) (k i g : Int) (f : Value) {w2 : World} (h : (((w.alloc (.cells #[.int .i64 k, .int .i64 i, .int .u32 g] 25)).alloc (.cells #[f] 58)).alloc (.cells #[.int .i64 0, .int .i64 0, .int .i64 0, .int .u32 0, .int .i64 0, .int .i64 0] 32)).alloc (.cells #[.bool false] 4) = w2) :
    Bk w2 (w.heap.size + 1) 58 #[f] ∧ Bk w2 (w.heap.size + 2) 32 #[.int .i64 0, .int .i64 0, .int .i64 0, .int .u32 0, .int .i64 0, .int .i64 0] ∧ Bk w2 (w.heap.size + 3) 4 #[.bool false] ∧ w2.heap.size = w.heap.size + 4 ∧ Below w.heap.size w w2 := by
  subst h
  have b1 := Bk.new (w.alloc (.cells #[.int .i64 k, .int .i64 i, .int .u32 g] 25)) 58 #[f]
  have b2 := Bk.new ((w.alloc (.cells #[.int .i64 k, .int .i64 i, .int .u32 g] 25)).alloc (.cells #[f] 58)) 32 #[.int .i64 0, .int .i64 0, .int .i64 0, .int .u32 0, .int .i64 0, .int .i64 0]
  have b3 := Bk.new (((w.alloc (.cells #[.int .i64 k, .int .i64 i, .int .u32 g] 25)).alloc (.cells #[f] 58)).alloc (.cells #[.int .i64 0, .int .i64 0, .int .i64 0, .int .u32 0, .int .i64 0, .int .i64 0] 32)) 4 #[.bool false]
  simp only [World.size_alloc] at b1 b2 b3
  exact ⟨(b1.up _).up _, b2.up _, b3, by simp, (((bel_new w _).alloc (by simp) _).alloc (by simp; omega) _).alloc (by simp; omega) _⟩
/-- What first finds. -/
def FindV (pr : Att → Bool) (L : List Att) (w : World) (e : Ending) (w' : World) : Prop :=
  e = .returned (.tuple #[((L.find? pr).getD att0).val, .bool (L.find? pr).isSome]) ∧ Below w.heap.size w w'
/-- While nothing is found; when it is. -/
def FindI (pr : Att → Bool) (f : Value) (w : World) (pre : List Att) (W : World) : Prop :=
  (∀ x ∈ pre, pr x = false) ∧ (Bk W (w.heap.size + 1) 58 #[f] ∧ Bk W (w.heap.size + 2) 32 #[.int .i64 0, .int .i64 0, .int .i64 0, .int .u32 0, .int .i64 0, .int .i64 0] ∧ Bk W (w.heap.size + 3) 4 #[.bool false] ∧ w.heap.size + 6 ≤ W.heap.size) ∧ Below w.heap.size w W
def FindX (pr : Att → Bool) (w : World) (c : Code) (pre : List Att) (W : World) : Prop :=
  c = .ret ∧ ∃ (p : List Att) (x : Att), pre = p ++ [x] ∧ (∀ y ∈ p, pr y = false) ∧ pr x = true ∧ (Bk W (w.heap.size + 2) 32 x.cl.toArray ∧ Bk W (w.heap.size + 3) 4 #[.bool true]) ∧ Below w.heap.size w W
theorem find_cells {w W W' : World} {B4 : Nat} {x : Att} (hb : Below W.heap.size W W') (h1 : Bk W B4 32 #[.int .i64 x.t, .int .i64 x.k, .int .i64 x.i, .int .u32 x.g, .int .i64 x.y, .int .i64 x.n])
    (h2 : Bk W (w.heap.size + 2) 32 #[.int .i64 0, .int .i64 0, .int .i64 0, .int .u32 0, .int .i64 0, .int .i64 0]) (h3 : Bk W (w.heap.size + 3) 4 #[.bool false]) :
    (W'.cell? ⟨B4, 0, none⟩ = some (.int .i64 x.t) ∧ W'.cell? ⟨B4, 1, none⟩ = some (.int .i64 x.k) ∧ W'.cell? ⟨B4, 2, none⟩ = some (.int .i64 x.i) ∧ W'.cell? ⟨B4, 3, none⟩ = some (.int .u32 x.g) ∧ W'.cell? ⟨B4, 4, none⟩ = some (.int .i64 x.y) ∧ W'.cell? ⟨B4, 5, none⟩ = some (.int .i64 x.n)) ∧
    (W'.cell? ⟨w.heap.size + 2, 0, none⟩ = some (.int .i64 0) ∧ W'.cell? ⟨w.heap.size + 2, 1, none⟩ = some (.int .i64 0) ∧ W'.cell? ⟨w.heap.size + 2, 2, none⟩ = some (.int .i64 0) ∧ W'.cell? ⟨w.heap.size + 2, 3, none⟩ = some (.int .u32 0) ∧ W'.cell? ⟨w.heap.size + 2, 4, none⟩ = some (.int .i64 0) ∧ W'.cell? ⟨w.heap.size + 2, 5, none⟩ = some (.int .i64 0)) ∧
    W'.cell? ⟨w.heap.size + 3, 0, none⟩ = some (.bool false) ∧
    (W'.frozen? ⟨w.heap.size + 2, 0, none⟩ = false ∧ W'.frozen? ⟨w.heap.size + 2, 1, none⟩ = false ∧ W'.frozen? ⟨w.heap.size + 2, 2, none⟩ = false ∧ W'.frozen? ⟨w.heap.size + 2, 3, none⟩ = false ∧ W'.frozen? ⟨w.heap.size + 2, 4, none⟩ = false ∧ W'.frozen? ⟨w.heap.size + 2, 5, none⟩ = false) ∧
    W'.frozen? ⟨w.heap.size + 3, 0, none⟩ = false := by
  have g1 := h1.below hb
  have g2 := h2.below hb
  have g3 := h3.below hb
  exact ⟨⟨g1.cell 0, g1.cell 1, g1.cell 2, g1.cell 3, g1.cell 4, g1.cell 5⟩, ⟨g2.cell 0, g2.cell 1, g2.cell 2, g2.cell 3, g2.cell 4, g2.cell 5⟩, g3.cell 0, ⟨g2.frozen 0, g2.frozen 1, g2.frozen 2, g2.frozen 3, g2.frozen 4, g2.frozen 5⟩, g3.frozen 0⟩
theorem KeepsFrom.of_below' {B : Nat} {W W' : World} (h : Below W.heap.size W W') : KeepsFrom B W W' := ⟨h.size, fun k o _ hk _ => (h.block k (Array.getElem?_eq_some_iff.1 hk).1).trans hk⟩
/-- The attempt and true, stored. -/
def stored (W : World) (N : Nat) (a : Att) (f : Bool) : World :=
  ((((((W.setCell ⟨N + 2, 0, none⟩ (.int .i64 a.t)).setCell ⟨N + 2, 1, none⟩ (.int .i64 a.k)).setCell ⟨N + 2, 2, none⟩ (.int .i64 a.i)).setCell ⟨N + 2, 3, none⟩ (.int .u32 a.g)).setCell ⟨N + 2, 4, none⟩ (.int .i64 a.y)).setCell ⟨N + 2, 5, none⟩ (.int .i64 a.n)).setCell ⟨N + 3, 0, none⟩ (.bool f)
theorem stored_facts {w W : World} {a : Att} {f g : Bool} (hBW : Below w.heap.size w W) (h2 : Bk W (w.heap.size + 2) 32 #[.int .i64 0, .int .i64 0, .int .i64 0, .int .u32 0, .int .i64 0, .int .i64 0]) (h3 : Bk W (w.heap.size + 3) 4 #[.bool g]) :
    Bk (stored W w.heap.size a f) (w.heap.size + 2) 32 a.cl.toArray ∧ Bk (stored W w.heap.size a f) (w.heap.size + 3) 4 #[.bool f] ∧ Below w.heap.size w (stored W w.heap.size a f) ∧ KeepsOthers W (stored W w.heap.size a f) := by
  unfold stored
  have hx := (((((h2.put 0 (.int .i64 a.t)).put 1 (.int .i64 a.k)).put 2 (.int .i64 a.i)).put 3 (.int .u32 a.g)).put 4 (.int .i64 a.y)).put 5 (.int .i64 a.n)
  simp only [List.setIfInBounds_toArray, List.set_cons_zero, List.set_cons_succ] at hx
  refine ⟨hx.same (Below.heap_setCell _ _ _ _ (by show w.heap.size + 2 ≠ w.heap.size + 3; omega)), ?_, ?_, ?_⟩
  · have h4 : Bk ((((((W.setCell ⟨w.heap.size + 2, 0, none⟩ (.int .i64 a.t)).setCell ⟨w.heap.size + 2, 1, none⟩ (.int .i64 a.k)).setCell ⟨w.heap.size + 2, 2, none⟩ (.int .i64 a.i)).setCell ⟨w.heap.size + 2, 3, none⟩ (.int .u32 a.g)).setCell ⟨w.heap.size + 2, 4, none⟩ (.int .i64 a.y)).setCell ⟨w.heap.size + 2, 5, none⟩ (.int .i64 a.n)) (w.heap.size + 3) 4 #[.bool g] := by
      refine h3.same ?_
      have hne : w.heap.size + 3 ≠ w.heap.size + 2 := by omega
      rw [Below.heap_setCell _ _ _ _ hne, Below.heap_setCell _ _ _ _ hne, Below.heap_setCell _ _ _ _ hne, Below.heap_setCell _ _ _ _ hne, Below.heap_setCell _ _ _ _ hne, Below.heap_setCell _ _ _ _ hne]
    have h5 := h4.put 0 (.bool f)
    simpa using h5
  · have hle : w.heap.size ≤ w.heap.size + 2 := by omega
    exact ((((((hBW.setCell (p := ⟨_, 0, none⟩) hle _).setCell (p := ⟨_, 1, none⟩) hle _).setCell (p := ⟨_, 2, none⟩) hle _).setCell (p := ⟨_, 3, none⟩) hle _).setCell (p := ⟨_, 4, none⟩) hle _).setCell (p := ⟨_, 5, none⟩) hle _).setCell (p := ⟨w.heap.size + 3, 0, none⟩) (by simp) _
  · exact ((((((KeepsOthers.setCell _ _ _).trans (KeepsOthers.setCell _ _ _)).trans (KeepsOthers.setCell _ _ _)).trans (KeepsOthers.setCell _ _ _)).trans (KeepsOthers.setCell _ _ _)).trans (KeepsOthers.setCell _ _ _)).trans (KeepsOthers.setCell _ _ _)
theorem find_hit {pr : Att → Bool} {w W w3 : World} {B : Nat} {pre : List Att} {x : Att} (hBW : Below w.heap.size w W) (hno : ∀ y ∈ pre, pr y = false) (hpx : pr x = true) (_ : w.heap.size + 6 ≤ W.heap.size) (hb3 : Below W.heap.size W w3)
    (h2 : Bk W (w.heap.size + 2) 32 #[.int .i64 0, .int .i64 0, .int .i64 0, .int .u32 0, .int .i64 0, .int .i64 0]) (h3 : Bk W (w.heap.size + 3) 4 #[.bool false]) : KeepsFrom B W (stored w3 w.heap.size x true) ∧ FindX pr w .ret (pre ++ [x]) (stored w3 w.heap.size x true) := by
  have hB3 := bel2 hBW hb3
  obtain ⟨h4, h5, h6, h7⟩ := stored_facts (a := x) (f := true) hB3 (h2.below hb3) (h3.below hb3)
  exact ⟨⟨Nat.le_trans hb3.size h7.size, fun k o _ h ho => h7.same k o ((hb3.block k (Array.getElem?_eq_some_iff.1 h).1).trans h) ho⟩, rfl, pre, x, rfl, hno, hpx, ⟨h4, h5⟩, h6⟩

set_option maxRecDepth 100000 in
set_option maxHeartbeats 4000000 in
theorem ffirst_of (p : Option Addr) (k i g : Int) (L : List Att) (Sp : List Att → Prop) (hSp : ∀ pre, Sp pre → pre <+: L) (N : Nat) (w : World)
    (hseq : ∀ w2, w2.heap.size = w.heap.size + 6 → Below w.heap.size w w2 → Bk w2 (w.heap.size + 4) 27 #[.pointer p] → Bk w2 (w.heap.size + 5) 25 #[.int .i64 k, .int .i64 i, .int .u32 g] →
      SeqStopsK Fence.wide 2 Tryz.prog 81 #[.pointer (some ⟨w.heap.size + 4, 0, none⟩), .pointer (some ⟨w.heap.size + 5, 0, none⟩)] (fun x : Att => #[x.val]) (KpS (fun _ => False) (w.heap.size + 6)) (fun ys => ys = L) Sp N w2) :
    Calls Tryz.prog 56 #[.pointer p, okey k i g, .func (.func 57) #[] #[]] w (FindV prT L w) := by
  have HSEQ := Lib.hid hseq
  have HSP := Lib.hid hSp
  clear hseq hSp
  unfold okey
  refine (callsIn_wide (n := 3)).1 ?_
  refine callsIn_of_wp_marks Tryz.func56 rfl trivial ?_ rfl
  simp only [Tryz.ntmps56, List.size_toArray, List.length_cons, List.length_nil, Nat.reduceAdd, Nat.reduceSub, Array.replicate_succ, Array.replicate_zero, List.push_toArray, List.append_toArray, List.nil_append, List.cons_append]
  gi_wp2_with (refine ⟨trivial, ?_⟩; gi_at_call 59; refine (callsIn_wide.2 (of_ok _ k i g _)).mono ?_; rintro e w' ⟨rfl, rfl⟩)
  obtain ⟨w1, hw1⟩ : ∃ w1, (((w.alloc (.cells #[.int .i64 k, .int .i64 i, .int .u32 g] 25)).alloc (.cells #[.func (.func 57) #[] #[]] 58)).alloc (.cells #[.int .i64 0, .int .i64 0, .int .i64 0, .int .u32 0, .int .i64 0, .int .i64 0] 32)).alloc (.cells #[.bool false] 4) = w1 := ⟨_, rfl⟩
  obtain ⟨q1, q2, q3, q4, q5⟩ := boxes4 w k i g _ hw1
  obtain ⟨w2, hw2⟩ : ∃ w2, (w1.alloc (.cells #[.pointer p] 27)).alloc (.cells #[.int .i64 k, .int .i64 i, .int .u32 g] 25) = w2 := ⟨_, rfl⟩
  obtain ⟨hx1, hx2, hx3, hx4⟩ := boxes w1 _ _ _ _ hw2
  rw [q4] at hx1 hx2 hx3 hx4
  have hsz : w2.heap.size = w.heap.size + 6 := hx3
  have hx4' : Below w1.heap.size w1 w2 := by rw [q4]; exact hx4
  have hB0 : Below w.heap.size w w2 := bel2 q5 hx4'
  have k1 := q1.below hx4'
  have k2 := q2.below hx4'
  have k3 := q3.below hx4'
  rw [hw1, hw2]
  clear q1 q2 q3 q4 q5 hw1 hw2 hx4
  refine wpIn_rangeFunc_ownH rfl (by decide) (gf := 81) (lb := #[.pointer (some ⟨w.heap.size + 4, 0, none⟩), .pointer (some ⟨w.heap.size + 5, 0, none⟩)]) rfl trivial (enters_of Tryz.func81 (by kernel_rfl) rfl)
    (HSEQ.out w2 hsz hB0 hx1 hx2) KpS.trans (kpS_b (by omega)) (Below.refl _ _) (fun _ => rfl)
    (FindI prT (.func (.func 57) #[] #[]) w) (FindX prT w)
    (fun s A B row hs hg hr => by
      obtain ⟨h1, ⟨h2, h3, h4, h6⟩, h5⟩ := hs
      have hr2 := fun r e => (hr r e).2
      exact ⟨h1, ⟨h2.grown hg hr2, h3.grown hg hr2, h4.grown hg hr2, Nat.le_trans h6 hg.size⟩, ownFrom_below (β := Unit) (Nat.le_refl _) (by omega) () A B row h5 hg hr⟩)
    (fun c s A B row hs hg hr => by
      obtain ⟨h0, p', x, h1, h7, h8, ⟨h3, h4⟩, h5⟩ := hs
      have hr2 := fun r e => (hr r e).2
      exact ⟨h0, p', x, h1, h7, h8, ⟨h3.grown hg hr2, h4.grown hg hr2⟩, ownFrom_below (β := Unit) (Nat.le_refl _) (by omega) () A B row h5 hg hr⟩)
    ⟨(fun _ h => by cases h), ⟨k1, k2, k3, by omega⟩, hB0⟩
    (fun x a' W => ∃ B4, w.heap.size + 6 ≤ B4 ∧ Bk W B4 32 #[.int .i64 x.t, .int .i64 x.k, .int .i64 x.i, .int .u32 x.g, .int .i64 x.y, .int .i64 x.n] ∧ a' = { tmps := #[.pointer p, .agg #[.int .i64 k, .int .i64 i, .int .u32 g], .func (.func 57) #[] #[], undef, .pointer (some ⟨w.heap.size, 0, none⟩), .pointer (some ⟨w.heap.size + 1, 0, none⟩), .pointer (some ⟨w.heap.size + 2, 0, none⟩), .pointer (some ⟨w.heap.size + 3, 0, none⟩), .pointer (some ⟨B4, 0, none⟩), .pointer p, .agg #[.int .i64 k, .int .i64 i, .int .u32 g], .func (.func 81) #[] #[.pointer (some ⟨w.heap.size + 4, 0, none⟩), .pointer (some ⟨w.heap.size + 5, 0, none⟩)], x.val, undef, undef, undef, undef, undef], defers := [] })
    (fun x a' => fun s W W' row hs hg hr => by
      obtain ⟨B4, h1, h2, h3⟩ := hs
      exact ⟨B4, h1, h2.grown hg (fun r e => (hr r e).2), h3⟩) ?assign ?body ?done ?stop
  case assign =>
    rintro l pre x W K ⟨hno, ⟨k1, k2, k3, k4⟩, hBW⟩ hK
    have HK := Lib.hid hK
    clear hK
    unfold Att.val
    gi_wp2
    have hal : Below W.heap.size W (W.alloc (.cells #[.int .i64 x.t, .int .i64 x.k, .int .i64 x.i, .int .u32 x.g, .int .i64 x.y, .int .i64 x.n] 32)) := bel_new _ _
    exact HK.out _ _ ((KeepsOthers.alloc W _).from _) (KpS.of_below hal k4) ⟨hno, ⟨k1.below hal, k2.below hal, k3.below hal, Nat.le_trans k4 hal.size⟩, bel2 hBW hal⟩ ⟨W.heap.size, k4, Bk.new W _ _, rfl⟩
  case body =>
    rintro l pre x a' W _ _ ⟨hno, ⟨k1, k2, k3, k4⟩, hBW⟩ ⟨B4, hB4, hbk, rfl⟩ hlt2
    have hc := k1.cell 0
    simp only [List.getElem?_toArray, List.getElem?_cons_zero] at hc
    obtain ⟨c0, c1, c2, c3, c4, c5⟩ := six_of (o := 0) (a := x) hbk (fun j u hj => by simpa [Att.cl] using hj)
    simp only [Nat.zero_add] at c0 c1 c2 c3 c4 c5
    have HK := Lib.hid (And.intro hbk (And.intro k2 k3))
    have HB := Lib.hid hBW
    have HNO := Lib.hid hno
    have HK1 := Lib.hid k1
    have HW : Hid (∀ W, Calls Tryz.prog 57 #[x.val] W fun e w' => e = .returned (.bool (prT x)) ∧ Below W.heap.size W w') := fun W => t_ok x W
    clear hbk k1 k2 k3 hBW hno
    cases hpx : prT x with
    | true =>
      have HPX := Lib.hid hpx
      gi_wp2_with (refine ⟨trivial, ?_⟩; gi_at_call 57; refine (callsIn_wide.2 (HW.out _)).mono ?_; rintro e w3 ⟨hee, hb3⟩; rw [HPX.out] at hee; subst hee; obtain ⟨⟨c0, c1, c2, c3, c4, c5⟩, ⟨z0, z1, z2, z3, z4, z5⟩, zb, ⟨y0, y1, y2, y3, y4, y5⟩, yb⟩ := find_cells hb3 HK.out.1 HK.out.2.1 HK.out.2.2)
      change KeepsFrom _ _ (stored w3 w.heap.size x true) ∧ FindX prT w .ret _ (stored w3 w.heap.size x true)
      exact find_hit HB.out HNO.out HPX.out k4 hb3 HK.out.2.1 HK.out.2.2
    | false =>
      have HPX := Lib.hid hpx
      gi_wp2_with (refine ⟨trivial, ?_⟩; gi_at_call 57; refine (callsIn_wide.2 (HW.out _)).mono ?_; rintro e w3 ⟨hee, hb3⟩; rw [HPX.out] at hee; subst hee)
      exact ⟨KeepsFrom.of_below' hb3, KpS.of_below hb3 k4, fun y hy => (List.mem_append.1 hy).elim (HNO.out y) (fun h => by rw [List.mem_singleton.1 h]; exact HPX.out), ⟨HK1.out.below hb3, HK.out.2.1.below hb3, HK.out.2.2.below hb3, Nat.le_trans k4 hb3.size⟩, bel2 HB.out hb3⟩
  case done =>
    rintro D ys W hD rfl ⟨hno, ⟨k1, k2, k3, k4⟩, hBW⟩ hK
    have hfi : Hid (ys.find? prT = none) := List.find?_eq_none.2 fun x hx => by rw [hno x hx]; decide
    obtain ⟨z0, z1, z2, z3, z4, z5⟩ := six_of (o := 0) (a := att0) k2 (fun j u hj => by simpa [Att.cl, att0] using hj)
    have zb := k3.cell 0
    have y0 := k2.frozen 0
    have y1 := k2.frozen 1
    have y2 := k2.frozen 2
    have y3 := k2.frozen 3
    have y4 := k2.frozen 4
    have y5 := k2.frozen 5
    have yb := k3.frozen 0
    simp only [att0, Nat.zero_add, List.getElem?_toArray, List.getElem?_cons_zero] at z0 z1 z2 z3 z4 z5 zb
    gi_wp2
    change bodyPostM _ _ _ _ _ _ _ (stored W w.heap.size att0 false)
    obtain ⟨s1, s2, s3, s4⟩ := stored_facts (a := att0) (f := false) hBW k2 k3
    generalize stored W w.heap.size att0 false = Z at *
    have hK' : Z.heap[D]? = some (.deferred (some [])) := s4.same D _ hK rfl
    have hg := grownBy_putObj' Z D (.deferred none)
    obtain ⟨c0, c1, c2, c3, c4, c5⟩ := six_new (s1.grown hg (fun r e => by cases e; exact ⟨_, hK', rfl⟩))
    have cb := (s2.grown hg (fun r e => by cases e; exact ⟨_, hK', rfl⟩)).cell 0
    simp only [att0, Nat.zero_add, List.getElem?_toArray, List.getElem?_cons_zero] at c0 c1 c2 c3 c4 c5 cb
    have hbz := s3.trans (belowK_b (w := w) (Nat.le_refl _) Z D _ (.deferred none) (by omega) hK' rfl rfl)
    clear z0 z1 z2 z3 z4 z5 zb y0 y1 y2 y3 y4 y5 yb s1 s2 s3 s4 hg k1 k2 k3 hBW
    refine ⟨by simp, .inl ⟨_, _, rfl, run_takeDeferred hK', ?_⟩⟩
    refine ⟨.tuple #[att0.val, .bool false], ?_, by rw [hfi.out]; rfl, hbz⟩
    unfold Att.val att0
    simp [results, Tryz.f56, go_sem, c0, c1, c2, c3, c4, c5, cb]
  case stop =>
    rintro D c pre W hD hpre ⟨rfl, p', x, rfl, hno, hpx, ⟨h2, h3⟩, h5⟩ hK
    obtain ⟨r, rfl⟩ := HSP.out _ hpre
    have hfi : Hid (((p' ++ [x]) ++ r).find? prT = some x) := by
      unfold Hid
      rw [List.append_assoc, List.find?_append, List.find?_eq_none.2 (fun y hy => by rw [hno y hy]; decide)]
      simp [hpx]
    gi_wp2
    have hg := grownBy_putObj' W D (.deferred none)
    obtain ⟨c0, c1, c2, c3, c4, c5⟩ := six_new (h2.grown hg (fun r e => by cases e; exact ⟨_, hK, rfl⟩))
    have cb := (h3.grown hg (fun r e => by cases e; exact ⟨_, hK, rfl⟩)).cell 0
    simp only [Nat.zero_add, List.getElem?_toArray, List.getElem?_cons_zero] at c0 c1 c2 c3 c4 c5 cb
    refine ⟨by simp, .inl ⟨_, _, rfl, run_takeDeferred hK, ?_⟩⟩
    refine ⟨.tuple #[x.val, .bool true], ?_, by rw [hfi.out]; rfl, h5.trans (belowK_b (w := w) (Nat.le_refl _) W D _ _ (by omega) hK rfl rfl)⟩
    unfold Att.val
    simp [results, Tryz.f56, go_sem, c0, c1, c2, c3, c4, c5, cb]
theorem ffirst_ok (b bk lo : Nat) (l : List Att) (k i g : Int) (hr : RgO k i g) (w : World) (h : LedW w b bk lo l) : Calls Tryz.prog 56 #[.pointer (some ⟨b, 0, none⟩), okey k i g, .func (.func 57) #[] #[]] w (FindV prT (ofL l k i g) w) := by
  have hlb := h.hb.lt
  have hlf := fun q hq => (h.foot_le (g := q) hq).2
  refine ffirst_of _ k i g (ofL l k i g) (fun pre => pre <+: ofL l k i g) (fun _ h => h) (ofL l k i g).length w fun w2 hsz hB0 hx1 hx2 => ?_
  obtain ⟨h1, h2⟩ := h.below hB0
  exact of_stops 2 (by decide) (w.heap.size + 4) (w.heap.size + 5) (w.heap.size + 6) b bk lo l k i g hr _ w2 ⟨hx1, hx2, h1, by omega, by omega, by omega, fun q hq => by have := hlf q ((h2 q).1 hq); exact ⟨by omega, id⟩, id, id, id⟩ (by omega)
theorem ffirst_no (p : Option Addr) (k i g : Int) (w : World) (h : Inv w p) : Calls Tryz.prog 56 #[.pointer p, okey k i g, .func (.func 57) #[] #[]] w (FindV prT [] w) :=
  ffirst_of p k i g [] (fun pre => pre <+: []) (fun _ h => h) 0 w fun w2 hsz hB0 hx1 hx2 => stops_inv 2 (by decide) _ _ p _ w2 (h.below hB0) (hx1.cell 0)

set_option maxRecDepth 100000 in
set_option maxHeartbeats 4000000 in
theorem fended_of (p : Option Addr) (k i g : Int) (L : List Att) (Sp : List Att → Prop) (hSp : ∀ pre, Sp pre → pre <+: L) (N : Nat) (w : World)
    (hseq : ∀ w2, w2.heap.size = w.heap.size + 6 → Below w.heap.size w w2 → Bk w2 (w.heap.size + 4) 27 #[.pointer p] → Bk w2 (w.heap.size + 5) 25 #[.int .i64 k, .int .i64 i, .int .u32 g] →
      SeqStopsK Fence.wide 2 Tryz.prog 81 #[.pointer (some ⟨w.heap.size + 4, 0, none⟩), .pointer (some ⟨w.heap.size + 5, 0, none⟩)] (fun x : Att => #[x.val]) (KpS (fun _ => False) (w.heap.size + 6)) (fun ys => ys = L) Sp N w2) :
    Calls Tryz.prog 56 #[.pointer p, okey k i g, .func (.func 58) #[] #[]] w (FindV prE L w) := by
  have HSEQ := Lib.hid hseq
  have HSP := Lib.hid hSp
  clear hseq hSp
  unfold okey
  refine (callsIn_wide (n := 3)).1 ?_
  refine callsIn_of_wp_marks Tryz.func56 rfl trivial ?_ rfl
  simp only [Tryz.ntmps56, List.size_toArray, List.length_cons, List.length_nil, Nat.reduceAdd, Nat.reduceSub, Array.replicate_succ, Array.replicate_zero, List.push_toArray, List.append_toArray, List.nil_append, List.cons_append]
  gi_wp2_with (refine ⟨trivial, ?_⟩; gi_at_call 59; refine (callsIn_wide.2 (of_ok _ k i g _)).mono ?_; rintro e w' ⟨rfl, rfl⟩)
  obtain ⟨w1, hw1⟩ : ∃ w1, (((w.alloc (.cells #[.int .i64 k, .int .i64 i, .int .u32 g] 25)).alloc (.cells #[.func (.func 58) #[] #[]] 58)).alloc (.cells #[.int .i64 0, .int .i64 0, .int .i64 0, .int .u32 0, .int .i64 0, .int .i64 0] 32)).alloc (.cells #[.bool false] 4) = w1 := ⟨_, rfl⟩
  obtain ⟨q1, q2, q3, q4, q5⟩ := boxes4 w k i g _ hw1
  obtain ⟨w2, hw2⟩ : ∃ w2, (w1.alloc (.cells #[.pointer p] 27)).alloc (.cells #[.int .i64 k, .int .i64 i, .int .u32 g] 25) = w2 := ⟨_, rfl⟩
  obtain ⟨hx1, hx2, hx3, hx4⟩ := boxes w1 _ _ _ _ hw2
  rw [q4] at hx1 hx2 hx3 hx4
  have hsz : w2.heap.size = w.heap.size + 6 := hx3
  have hx4' : Below w1.heap.size w1 w2 := by rw [q4]; exact hx4
  have hB0 : Below w.heap.size w w2 := bel2 q5 hx4'
  have k1 := q1.below hx4'
  have k2 := q2.below hx4'
  have k3 := q3.below hx4'
  rw [hw1, hw2]
  clear q1 q2 q3 q4 q5 hw1 hw2 hx4
  refine wpIn_rangeFunc_ownH rfl (by decide) (gf := 81) (lb := #[.pointer (some ⟨w.heap.size + 4, 0, none⟩), .pointer (some ⟨w.heap.size + 5, 0, none⟩)]) rfl trivial (enters_of Tryz.func81 (by kernel_rfl) rfl)
    (HSEQ.out w2 hsz hB0 hx1 hx2) KpS.trans (kpS_b (by omega)) (Below.refl _ _) (fun _ => rfl)
    (FindI prE (.func (.func 58) #[] #[]) w) (FindX prE w)
    (fun s A B row hs hg hr => by
      obtain ⟨h1, ⟨h2, h3, h4, h6⟩, h5⟩ := hs
      have hr2 := fun r e => (hr r e).2
      exact ⟨h1, ⟨h2.grown hg hr2, h3.grown hg hr2, h4.grown hg hr2, Nat.le_trans h6 hg.size⟩, ownFrom_below (β := Unit) (Nat.le_refl _) (by omega) () A B row h5 hg hr⟩)
    (fun c s A B row hs hg hr => by
      obtain ⟨h0, p', x, h1, h7, h8, ⟨h3, h4⟩, h5⟩ := hs
      have hr2 := fun r e => (hr r e).2
      exact ⟨h0, p', x, h1, h7, h8, ⟨h3.grown hg hr2, h4.grown hg hr2⟩, ownFrom_below (β := Unit) (Nat.le_refl _) (by omega) () A B row h5 hg hr⟩)
    ⟨(fun _ h => by cases h), ⟨k1, k2, k3, by omega⟩, hB0⟩
    (fun x a' W => ∃ B4, w.heap.size + 6 ≤ B4 ∧ Bk W B4 32 #[.int .i64 x.t, .int .i64 x.k, .int .i64 x.i, .int .u32 x.g, .int .i64 x.y, .int .i64 x.n] ∧ a' = { tmps := #[.pointer p, .agg #[.int .i64 k, .int .i64 i, .int .u32 g], .func (.func 58) #[] #[], undef, .pointer (some ⟨w.heap.size, 0, none⟩), .pointer (some ⟨w.heap.size + 1, 0, none⟩), .pointer (some ⟨w.heap.size + 2, 0, none⟩), .pointer (some ⟨w.heap.size + 3, 0, none⟩), .pointer (some ⟨B4, 0, none⟩), .pointer p, .agg #[.int .i64 k, .int .i64 i, .int .u32 g], .func (.func 81) #[] #[.pointer (some ⟨w.heap.size + 4, 0, none⟩), .pointer (some ⟨w.heap.size + 5, 0, none⟩)], x.val, undef, undef, undef, undef, undef], defers := [] })
    (fun x a' => fun s W W' row hs hg hr => by
      obtain ⟨B4, h1, h2, h3⟩ := hs
      exact ⟨B4, h1, h2.grown hg (fun r e => (hr r e).2), h3⟩) ?assign ?body ?done ?stop
  case assign =>
    rintro l pre x W K ⟨hno, ⟨k1, k2, k3, k4⟩, hBW⟩ hK
    have HK := Lib.hid hK
    clear hK
    unfold Att.val
    gi_wp2
    have hal : Below W.heap.size W (W.alloc (.cells #[.int .i64 x.t, .int .i64 x.k, .int .i64 x.i, .int .u32 x.g, .int .i64 x.y, .int .i64 x.n] 32)) := bel_new _ _
    exact HK.out _ _ ((KeepsOthers.alloc W _).from _) (KpS.of_below hal k4) ⟨hno, ⟨k1.below hal, k2.below hal, k3.below hal, Nat.le_trans k4 hal.size⟩, bel2 hBW hal⟩ ⟨W.heap.size, k4, Bk.new W _ _, rfl⟩
  case body =>
    rintro l pre x a' W _ _ ⟨hno, ⟨k1, k2, k3, k4⟩, hBW⟩ ⟨B4, hB4, hbk, rfl⟩ hlt2
    have hc := k1.cell 0
    simp only [List.getElem?_toArray, List.getElem?_cons_zero] at hc
    obtain ⟨c0, c1, c2, c3, c4, c5⟩ := six_of (o := 0) (a := x) hbk (fun j u hj => by simpa [Att.cl] using hj)
    simp only [Nat.zero_add] at c0 c1 c2 c3 c4 c5
    have HK := Lib.hid (And.intro hbk (And.intro k2 k3))
    have HB := Lib.hid hBW
    have HNO := Lib.hid hno
    have HK1 := Lib.hid k1
    have HW : Hid (∀ W, Calls Tryz.prog 58 #[x.val] W fun e w' => e = .returned (.bool (prE x)) ∧ Below W.heap.size W w') := fun W => e_ok x W
    clear hbk k1 k2 k3 hBW hno
    cases hpx : prE x with
    | true =>
      have HPX := Lib.hid hpx
      gi_wp2_with (refine ⟨trivial, ?_⟩; gi_at_call 58; refine (callsIn_wide.2 (HW.out _)).mono ?_; rintro e w3 ⟨hee, hb3⟩; rw [HPX.out] at hee; subst hee; obtain ⟨⟨c0, c1, c2, c3, c4, c5⟩, ⟨z0, z1, z2, z3, z4, z5⟩, zb, ⟨y0, y1, y2, y3, y4, y5⟩, yb⟩ := find_cells hb3 HK.out.1 HK.out.2.1 HK.out.2.2)
      change KeepsFrom _ _ (stored w3 w.heap.size x true) ∧ FindX prE w .ret _ (stored w3 w.heap.size x true)
      exact find_hit HB.out HNO.out HPX.out k4 hb3 HK.out.2.1 HK.out.2.2
    | false =>
      have HPX := Lib.hid hpx
      gi_wp2_with (refine ⟨trivial, ?_⟩; gi_at_call 58; refine (callsIn_wide.2 (HW.out _)).mono ?_; rintro e w3 ⟨hee, hb3⟩; rw [HPX.out] at hee; subst hee)
      exact ⟨KeepsFrom.of_below' hb3, KpS.of_below hb3 k4, fun y hy => (List.mem_append.1 hy).elim (HNO.out y) (fun h => by rw [List.mem_singleton.1 h]; exact HPX.out), ⟨HK1.out.below hb3, HK.out.2.1.below hb3, HK.out.2.2.below hb3, Nat.le_trans k4 hb3.size⟩, bel2 HB.out hb3⟩
  case done =>
    rintro D ys W hD rfl ⟨hno, ⟨k1, k2, k3, k4⟩, hBW⟩ hK
    have hfi : Hid (ys.find? prE = none) := List.find?_eq_none.2 fun x hx => by rw [hno x hx]; decide
    obtain ⟨z0, z1, z2, z3, z4, z5⟩ := six_of (o := 0) (a := att0) k2 (fun j u hj => by simpa [Att.cl, att0] using hj)
    have zb := k3.cell 0
    have y0 := k2.frozen 0
    have y1 := k2.frozen 1
    have y2 := k2.frozen 2
    have y3 := k2.frozen 3
    have y4 := k2.frozen 4
    have y5 := k2.frozen 5
    have yb := k3.frozen 0
    simp only [att0, Nat.zero_add, List.getElem?_toArray, List.getElem?_cons_zero] at z0 z1 z2 z3 z4 z5 zb
    gi_wp2
    change bodyPostM _ _ _ _ _ _ _ (stored W w.heap.size att0 false)
    obtain ⟨s1, s2, s3, s4⟩ := stored_facts (a := att0) (f := false) hBW k2 k3
    generalize stored W w.heap.size att0 false = Z at *
    have hK' : Z.heap[D]? = some (.deferred (some [])) := s4.same D _ hK rfl
    have hg := grownBy_putObj' Z D (.deferred none)
    obtain ⟨c0, c1, c2, c3, c4, c5⟩ := six_new (s1.grown hg (fun r e => by cases e; exact ⟨_, hK', rfl⟩))
    have cb := (s2.grown hg (fun r e => by cases e; exact ⟨_, hK', rfl⟩)).cell 0
    simp only [att0, Nat.zero_add, List.getElem?_toArray, List.getElem?_cons_zero] at c0 c1 c2 c3 c4 c5 cb
    have hbz := s3.trans (belowK_b (w := w) (Nat.le_refl _) Z D _ (.deferred none) (by omega) hK' rfl rfl)
    clear z0 z1 z2 z3 z4 z5 zb y0 y1 y2 y3 y4 y5 yb s1 s2 s3 s4 hg k1 k2 k3 hBW
    refine ⟨by simp, .inl ⟨_, _, rfl, run_takeDeferred hK', ?_⟩⟩
    refine ⟨.tuple #[att0.val, .bool false], ?_, by rw [hfi.out]; rfl, hbz⟩
    unfold Att.val att0
    simp [results, Tryz.f56, go_sem, c0, c1, c2, c3, c4, c5, cb]
  case stop =>
    rintro D c pre W hD hpre ⟨rfl, p', x, rfl, hno, hpx, ⟨h2, h3⟩, h5⟩ hK
    obtain ⟨r, rfl⟩ := HSP.out _ hpre
    have hfi : Hid (((p' ++ [x]) ++ r).find? prE = some x) := by
      unfold Hid
      rw [List.append_assoc, List.find?_append, List.find?_eq_none.2 (fun y hy => by rw [hno y hy]; decide)]
      simp [hpx]
    gi_wp2
    have hg := grownBy_putObj' W D (.deferred none)
    obtain ⟨c0, c1, c2, c3, c4, c5⟩ := six_new (h2.grown hg (fun r e => by cases e; exact ⟨_, hK, rfl⟩))
    have cb := (h3.grown hg (fun r e => by cases e; exact ⟨_, hK, rfl⟩)).cell 0
    simp only [Nat.zero_add, List.getElem?_toArray, List.getElem?_cons_zero] at c0 c1 c2 c3 c4 c5 cb
    refine ⟨by simp, .inl ⟨_, _, rfl, run_takeDeferred hK, ?_⟩⟩
    refine ⟨.tuple #[x.val, .bool true], ?_, by rw [hfi.out]; rfl, h5.trans (belowK_b (w := w) (Nat.le_refl _) W D _ _ (by omega) hK rfl rfl)⟩
    unfold Att.val
    simp [results, Tryz.f56, go_sem, c0, c1, c2, c3, c4, c5, cb]
theorem fended_ok (b bk lo : Nat) (l : List Att) (k i g : Int) (hr : RgO k i g) (w : World) (h : LedW w b bk lo l) : Calls Tryz.prog 56 #[.pointer (some ⟨b, 0, none⟩), okey k i g, .func (.func 58) #[] #[]] w (FindV prE (ofL l k i g) w) := by
  have hlb := h.hb.lt
  have hlf := fun q hq => (h.foot_le (g := q) hq).2
  refine fended_of _ k i g (ofL l k i g) (fun pre => pre <+: ofL l k i g) (fun _ h => h) (ofL l k i g).length w fun w2 hsz hB0 hx1 hx2 => ?_
  obtain ⟨h1, h2⟩ := h.below hB0
  exact of_stops 2 (by decide) (w.heap.size + 4) (w.heap.size + 5) (w.heap.size + 6) b bk lo l k i g hr _ w2 ⟨hx1, hx2, h1, by omega, by omega, by omega, fun q hq => by have := hlf q ((h2 q).1 hq); exact ⟨by omega, id⟩, id, id, id⟩ (by omega)
theorem fended_no (p : Option Addr) (k i g : Int) (w : World) (h : Inv w p) : Calls Tryz.prog 56 #[.pointer p, okey k i g, .func (.func 58) #[] #[]] w (FindV prE [] w) :=
  fended_of p k i g [] (fun pre => pre <+: []) (fun _ h => h) 0 w fun w2 hsz hB0 hx1 hx2 => stops_inv 2 (by decide) _ _ p _ w2 (h.below hB0) (hx1.cell 0)
end Go.Proofs.YtenggngcigkakaaGreatDoor
