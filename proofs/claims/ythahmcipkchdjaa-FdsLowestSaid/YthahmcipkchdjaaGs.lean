/- slices.ContainsFunc and slices.SortFunc as FdsLowest calls them. -/
import Derived.Test.YthahmcipkchdjaaGm
import Derived.Test.YthahmcipkchdjaaFs
import Derived.Shelf.SlSortCmp.NoneTotal
namespace Go.Proofs.Ythahmcipkchdjaa
open Go.RowKit

/-! ### is there an open file of the id that is wanted? -/
def fcl (x : Nat × Nat) : List Value := (fro x).cl
set_option maxHeartbeats 1000000 in
theorem pred_ok (A want : Nat) (w : World) (h : Bk w A 3 #[.int .i64 want]) : PredBelow Try.prog 24 #[.pointer (some ⟨A, 0, none⟩)] (fun x => .agg (fcl x).toArray) (fun x => decide (x.1 = want)) w := by
  intro W x hW
  have hA := h.below hW
  have hAl := hA.lt
  obtain ⟨i, g⟩ := x
  show Calls Try.prog 24 #[.agg #[.int .i64 1, .int .i64 i, .int .u32 g], .pointer (some ⟨A, 0, none⟩)] W _
  have hA2 := hA.up (.cells #[.int .i64 1, .int .i64 i, .int .u32 g] 25)
  have HB : Hid (Below w.heap.size w (W.alloc (.cells #[.int .i64 1, .int .i64 i, .int .u32 g] 25))) := bel_alloc hW _
  have c0 : (W.alloc (.cells #[.int .i64 1, .int .i64 i, .int .u32 g] 25)).cell? ⟨A, 0, none⟩ = some (.int .i64 want) := hA2.cell 0
  obtain ⟨r, hr⟩ : ∃ r, decide (i = want) = r := ⟨_, rfl⟩
  have hr1 : ((i : Int) == (want : Int)) = r := by rw [← hr]; by_cases c : i = want <;> simp [c] <;> omega
  simp only [hr]
  clear hW hA h hA2 hr
  go_enter Try.func24, Try.ntmps24
  go_wp2
  go_ret
  exact ⟨rfl, HB.out⟩
set_option maxHeartbeats 1000000 in
theorem index_nil (f : Value) (w : World) : Calls Try.prog 45 #[.slice none 0 0, f] w fun e w' => e = .returned (.int .i64 (-1)) ∧ w = w' := by
  go_enter Try.func45, Try.ntmps45
  go_wp2
  refine wp_loop_rounds 1 ?_
  rw [rounds_succ]
  go_wp2
  go_ret
  exact ⟨rfl, rfl⟩
set_option maxHeartbeats 1000000 in
theorem contains_nil (f : Value) (w : World) : Calls Try.prog 23 #[.slice none 0 0, f] w fun e w' => e = .returned (.bool false) ∧ w = w' := by
  go_enter Try.func23, Try.ntmps23
  go_wp2_with (go_at_call 45; refine (index_nil _ _).mono ?_; rintro e w' ⟨rfl, rfl⟩)
  go_ret
  exact ⟨rfl, rfl⟩
theorem contains_ok (A want base : Nat) (p : Option Addr) (q c : Nat) (R : List (Nat × Nat)) (w : World) (hq : R.length = q) (h : w.ownsRow base 25 3 (.slice p q c) q (ocls (R.map fro))) (hA : Bk w A 3 #[.int .i64 want]) :
    Calls Try.prog 23 #[.slice p q c, .func (.func 24) #[] #[.pointer (some ⟨A, 0, none⟩)]] w fun e w' => e = .returned (.bool (R.any fun r => decide (r.1 = want))) ∧ Below w.heap.size w w' := by
  subst hq
  rcases h.2 with ⟨e, h0⟩ | ⟨g', cap, cur, e, h1, h2, h3, h4, h5, h6⟩
  · injection e with e1 e2 e3
    subst e1 e3
    obtain rfl := List.eq_nil_of_length_eq_zero h0
    exact (contains_nil _ w).mono fun e w' ⟨h1, h2⟩ => ⟨h1, by subst h2; exact Below.refl _ _⟩
  · injection e with e1 e2 e3
    subst e1
    have hb : Bk w g' 25 cur := h2
    have hlen : (R.map fro).length = R.length := by simp
    have hrd : RdO w (.slice (some ⟨g', 0, none⟩) R.length c) (R.map fro) := RdO.of_own (b := base) (by rw [hlen]; exact h)
    have := AnyQ.slices_ContainsFunc Try.laysContains 3 Try.isAgg25 Try.sizeOf25 fcl (fun _ => rfl) (fun x => decide (x.1 = want)) 24 #[.pointer (some ⟨A, 0, none⟩)]
      (enters_of Try.func24 (by kernel_rfl) rfl) g' 0 R.length c R w (pred_ok A want w hA) (Nat.le_refl _) (by have := h3; unfold maxLen at h4; omega) hb.lt (fun j hj i v hv => by
        rw [getElem!_pos R j hj] at hv
        obtain ⟨g2, off, e2, _, t0, t1, t2⟩ := hrd.cell (j := j) (by rw [hlen]; exact hj)
        injection e2 with e2
        injection e2 with e2 e3
        subst e2 e3
        have hi : i < 3 := (List.getElem?_eq_some_iff.1 hv).1
        have hx : (R.map fro)[j]'(by rw [hlen]; exact hj) = fro R[j] := by simp
        rw [hx] at t0 t1 t2
        match i, hi with
        | 0, _ => cases hv; exact t0
        | 1, _ => cases hv; exact t1
        | 2, _ => cases hv; exact t2)
    rw [List.take_length] at this
    exact this

/-! ### the order by ids -/
abbrev Fe := Fin 64 × Nat
def Fe.pr (x : Fe) : Nat × Nat := (x.1.1, x.2)
def ecl (x : Fe) : List Value := (fro x.pr).cl
def ecmp (x y : Fe) : Int := (x.1.1 : Int) - y.1.1
theorem elt (x y : Fe) : ltOf ecmp x y = decide (x.1.1 < y.1.1) := by unfold ltOf ecmp; by_cases c : x.1.1 < y.1.1 <;> simp [c] <;> omega
theorem eswo : Sort.SWO (ltOf ecmp) where
  irrefl x := by rw [elt]; simp
  trans x y z h1 h2 := by rw [elt] at *; simp at *; omega
  ntrans x y z h1 h2 := by rw [elt] at *; simp at *; omega
set_option maxHeartbeats 1000000 in
theorem ecmp_ok (x y : Fe) (W : World) : Calls Try.prog 26 #[.agg (ecl x).toArray, .agg (ecl y).toArray] W fun e w' => e = .returned (.int .i64 (ecmp x y)) ∧ ∃ q os', w' = Sort.grow (W.drewN q) os' := by
  obtain ⟨⟨i, hi⟩, g⟩ := x
  obtain ⟨⟨j, hj⟩, k⟩ := y
  have hi2 : (i : Int) ≤ 63 := by omega
  have hj2 : (j : Int) ≤ 63 := by omega
  show Calls Try.prog 26 #[.agg #[.int .i64 1, .int .i64 i, .int .u32 g], .agg #[.int .i64 1, .int .i64 j, .int .u32 k]] W fun e w' => e = .returned (.int .i64 ((i : Int) - j)) ∧ ∃ q os', w' = Sort.grow (W.drewN q) os'
  go_enter Try.func26, Try.ntmps26
  go_wp2
  go_ret
  exact ⟨by go_num, 0, _, by rw [Sort.alloc_eq_grow, Sort.alloc_eq_grow, Sort.grow_grow]; rfl⟩
instance : Inhabited Fe := ⟨(0, 0)⟩
/-- The row as the sort wants it. -/
def erow (l : List Fe) : List Value := ocls (l.map fun x => fro x.pr)
theorem erow_len (l : List Fe) : (erow l).length = l.length * 3 := by simp [erow, ocls_length]
theorem erow_at (l : List Fe) (t : Nat) (h : t < l.length * 3) : (erow l)[t]? = some (Sort.flatK ecl 3 l.toArray)[t]! := by
  have hj : t / 3 < l.length := by omega
  have h1 := ocls_at (l.map fun x => fro x.pr) (t / 3) (by simpa using hj) (t % 3) (by omega)
  rw [show t / 3 * 3 + t % 3 = t by omega] at h1
  rw [Sort.get_flatK _ _ _ _ (by simpa using h)]
  unfold erow
  rw [h1]
  have e : (l.map fun x => fro x.pr)[t / 3]'(by simpa using hj) = fro (l[t / 3]).pr := by simp
  rw [e]
  have e2 : l.toArray[t / 3]! = l[t / 3] := by rw [getElem!_pos l.toArray (t / 3) (by simpa using hj)]; simp
  rw [e2]
  have h3 : t % 3 < 3 := Nat.mod_lt _ (by decide)
  generalize t % 3 = q at h3
  match q, h3 with
  | 0, _ => rfl
  | 1, _ => rfl
  | 2, _ => rfl
theorem sort_fin {w : World} {base g q c : Nat} {l l' : List Fe} (hl' : l'.length = q) (h : w.ownsRow base 25 3 (.slice (some ⟨g, 0, none⟩) q c) q (erow l)) (m : Nat) (os : Array Obj) :
    (sortWorldK ecl 3 w g 0 m l'.toArray os).ownsRow base 25 3 (.slice (some ⟨g, 0, none⟩) q c) q (erow l') ∧ Kept (· = g) w (sortWorldK ecl 3 w g 0 m l'.toArray os) := by
  rcases h.2 with ⟨e, h0⟩ | ⟨g', cap, cur, e, h1, h2, h3, h4, h5, h6⟩
  · injection e with e1; cases e1
  · injection e with e1 e2 e3
    injection e1 with e1
    injection e1 with e1
    subst e1 e3
    have hb : Bk w g 25 cur := h2
    have hlt := hb.lt
    have hm : (Sort.putRowK ecl 3 (Sort.ahead w m) g 0 l'.toArray).heap[g]? = some (.cells (Sort.putCells id 0 (Sort.flatK ecl 3 l'.toArray) cur) 25 (0, 0)) := by
      unfold Sort.putRowK Sort.putRow Sort.mapBlock
      simp only [Sort.heap_ahead, Array.getElem?_modify, if_true]
      rw [show w.heap[g]? = _ from hb]; rfl
    have hsz : (Sort.putRowK ecl 3 (Sort.ahead w m) g 0 l'.toArray).heap.size = w.heap.size := by unfold Sort.putRowK; rw [Sort.size_putRow]; rfl
    refine ⟨⟨by rw [erow_len, hl'], .inr ⟨g, c, _, rfl, h1, (Sort.heap_grow_old _ os (by rw [hsz]; exact hlt)).trans hm, h3, h4, ?_, ?_⟩⟩, rfl, rfl, rfl, ?_, fun k hk hs => ?_⟩
    · unfold Sort.putCells; rw [Array.size_mapIdx]; exact h5
    · refine List.ext_getElem? fun t => ?_
      by_cases ht : t < q * 3
      · rw [List.getElem?_take_of_lt ht, Array.getElem?_toList, erow_at l' t (by omega)]
        unfold Sort.putCells
        rw [Array.getElem?_mapIdx, Array.getElem?_eq_getElem (show t < cur.size by omega)]
        simp only [Option.map_some, id]
        rw [if_pos ⟨Nat.zero_le _, by rw [Sort.size_flatK]; simp; omega⟩]
        rfl
      · rw [List.getElem?_eq_none (by rw [List.length_take]; omega), List.getElem?_eq_none (by rw [erow_len]; omega)]
    · show w.heap.size ≤ (Sort.grow _ _).heap.size
      rw [Sort.size_grow, hsz]; omega
    · refine (Sort.heap_grow_old _ os (by rw [hsz]; exact hk)).trans ?_
      unfold Sort.putRowK Sort.putRow Sort.mapBlock
      simp only [Sort.heap_ahead, Array.getElem?_modify]
      rw [if_neg (fun e => hs e.symm)]
theorem sort_ok (base q c : Nat) (p : Option Addr) (l : List Fe) (hl : l.length = q) (hq : q ≤ 1000) (w : World) (h : w.ownsRow base 25 3 (.slice p q c) q (erow l)) :
    Calls Try.prog 25 #[.slice p q c, .func (.func 26) #[] #[]] w fun e w' => e = .returned (.tuple #[]) ∧ ∃ l' : List Fe, l'.Perm l ∧ l'.Pairwise (fun a b => a.1.1 ≤ b.1.1) ∧ w'.ownsRow base 25 3 (.slice p q c) q (erow l') ∧ Kept (fun g => (Value.slice p q c).ownBlock = some g) w w' := by
  rcases h.2 with ⟨e, h0⟩ | ⟨g, cap, cur, e, h1, h2, h3, h4, h5, h6⟩
  · injection e with e1 e2 e3
    subst e1 e2 e3
    obtain rfl := List.eq_nil_of_length_eq_zero (hl.trans h0)
    refine (AnyF.slices_SortFunc_none Try.laysSort none 0 _ w).mono fun e w' ⟨k1, k2⟩ => ⟨k1, [], List.Perm.refl _, List.Pairwise.nil, ?_, ?_⟩
    · subst k2; exact h
    · subst k2; exact Kept.refl _ _
  · injection e with e1 e2 e3
    subst e1 e3
    have hb : Bk w g 25 cur := h2
    have hH : Sort.HoldsK ecl 3 w g 0 l.toArray := fun t ht => by
      rw [Sort.size_flatK] at ht
      have ht' : t < l.length * 3 := by simpa using ht
      refine ⟨?_, hb.frozen _⟩
      rw [Nat.zero_add, hb.cell, id, ← erow_at l t ht', ← h6, List.getElem?_take_of_lt (by omega), Array.getElem?_toList]
    have hcmp : CmpLays Try.prog 26 #[] ecl 3 ecmp g 0 l.toArray.size w := fun _ _ _ _ x y => ecmp_ok x y _
    have := AnyQ.slices_SortFunc Try.laysSort 3 Try.isAgg25 Try.sizeOf25 ecl (fun _ => rfl) (fun x v hv => Ro.cl_one _ v hv) ecmp eswo 26 #[] g 0 c l.toArray w
      (enters_of Try.func26 (by kernel_rfl) rfl) hcmp hH hb.lt (by rw [List.size_toArray, hl]; omega)
    have hls : l.toArray.size = q := by simpa using hl
    rw [hls] at this
    refine this.mono fun e w' ⟨k1, d', n, os, ⟨k2, _, k3⟩, k4, k5⟩ => ⟨k1, d'.toList, ?_, ?_, ?_⟩
    · have e1 : (d'.extract 0 q) = d' := by rw [← hls, ← k2]; simp
      have e2 : (l.toArray.extract 0 q) = l.toArray := by rw [← hls]; simp
      rw [e1, e2] at k3
      simpa using k3
    · rw [List.pairwise_iff_getElem]
      intro a b ha hb' hab
      have hk := k4 a b (Nat.zero_le _) hab (by rw [Array.length_toList] at hb'; omega)
      rw [elt] at hk
      rw [Array.length_toList] at ha hb'
      rw [getElem!_pos d' b hb', getElem!_pos d' a ha] at hk
      simpa using hk
    · have hsl : d'.toList.length = q := by rw [Array.length_toList, k2, hls]
      have := sort_fin (l' := d'.toList) hsl h n os
      rw [Array.toArray_toList] at this
      subst k5
      exact ⟨this.1, this.2.mono fun k _ e => by subst e; rfl⟩
end Go.Proofs.Ythahmcipkchdjaa
