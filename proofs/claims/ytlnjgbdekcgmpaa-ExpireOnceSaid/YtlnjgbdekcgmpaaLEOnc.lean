/- ExpireOnce: each id is returned once, the first time that now is at least its time, in the order of times and ids. -/
import Derived.Test.YtlnjgbdekcgmpaaEx
namespace Go.Proofs.Ytlnjgbdekcgmpaa
open Go.RowKit

theorem info_bool : (Try.prog.info? 4).map (fun i => (i.zero, i.size, i.bytes)) = some (some (.bool false), 1, 1) := by kernel_rfl
/-- Which ids have been seen, in cells. -/
def seenC (f : Nat → Bool) (n : Nat) : Array Value := ((List.range n).map fun j => Value.bool (f j)).toArray
theorem seenC_at (f : Nat → Bool) {n j : Nat} (h : j < n) : (seenC f n)[j]? = some (.bool (f j)) := by simp [seenC, h]
theorem seenC_put (f : Nat → Bool) (n i : Nat) : (seenC f n).setIfInBounds i (.bool true) = seenC (fun j => f j || j == i) n := by
  refine Array.ext_getElem? fun j => ?_
  rw [Array.getElem?_setIfInBounds]
  by_cases hj : j < n
  · rw [seenC_at _ hj, seenC_at _ hj]
    by_cases e : i = j
    · subst e; simp [seenC, hj]
    · rw [if_neg e]
      have : (j == i) = false := beq_eq_false_iff_ne.2 fun h => e h.symm
      rw [this, Bool.or_false]
  · have h1 : (seenC f n)[j]? = none := by simp [seenC]; omega
    have h2 : (seenC (fun j => f j || j == i) n)[j]? = none := by simp [seenC]; omega
    rw [h1, h2]
    have h3 : (seenC f n).size = n := by simp [seenC]
    rw [h3]
    by_cases e : i = j
    · rw [if_pos e, if_neg (by omega)]
    · rw [if_neg e]
theorem make_bool (m : Nat) (hm : m ≤ 4096) (W : World) : (Instr.makeSlice 49 (.int .i64 m) (.int .i64 m)).run Try.prog W = .ok (.slice (some ⟨W.heap.size, 0, none⟩) m m) (W.alloc (.cells (seenC (fun _ => false) m) 4)) := by
  obtain ⟨i0, hi, hz0, hz1, hz2⟩ := info_parts info_bool
  have := run_make (P := Try.prog) W 49 4 i0 _ Try.underlying49 hi hz0 .i64 .i64 m m (by omega) (by omega) (by rw [hz2]; omega) (by omega)
  rw [this, hz1]
  have e : madeCells #[Value.bool false] m = seenC (fun _ => false) m := by
    have h := toList_madeCells_one (Value.bool false) m
    refine Array.toList_inj.1 ?_
    rw [h]
    simp [seenC, List.map_const']
  simp [Value.cells, e]

/-- While time goes: the queue holds R; the ids are seen as f says. -/
def OSt (w0 w : World) (b S n : Nat) (R : List En) (f : Nat → Bool) : Prop := ∃ F, Q w b F R ∧ (∀ g, F g → w0.heap.size ≤ g) ∧ Below w0.heap.size w0 w ∧ Bk w S 4 (seenC f n) ∧ w0.heap.size ≤ S ∧ ¬ F S
section
variable {w0 w w' : World} {b S n : Nat} {R : List En} {f : Nat → Bool}
theorem OSt.own (h : OSt w0 w b S n R f) : Own w0 w b R := by obtain ⟨F, h1, h2, h3, _⟩ := h; exact ⟨F, h1, h2, h3⟩
theorem OSt.bel (h : OSt w0 w b S n R f) : Below w0.heap.size w0 w := h.own.bel
theorem OSt.cell (h : OSt w0 w b S n R f) {j : Nat} (hj : j < n) : w.cell? ⟨S, j, none⟩ = some (.bool (f j)) ∧ w.frozen? ⟨S, j, none⟩ = false ∧ S < w.heap.size := by
  obtain ⟨F, _, _, _, h4, _⟩ := h
  exact ⟨by rw [h4.cell]; exact seenC_at f hj, h4.frozen j, h4.lt⟩
theorem OSt.make (h : Own w0 w b R) : OSt w0 (w.alloc (.cells (seenC f n) 4)) b w.heap.size n R f := by
  obtain ⟨F, h1, h2, h3⟩ := h
  have hb : Below w.heap.size w (w.alloc (.cells (seenC f n) 4)) := (Below.refl _ _).alloc (Nat.le_refl _) _
  exact ⟨F, h1.below hb, h2, h3.trans (hb.mono h3.size), Bk.new _ _ _, h3.size, fun hf => by have := h1.lt hf; omega⟩
theorem OSt.put (h : OSt w0 w b S n R f) (i : Nat) : OSt w0 (w.setCell ⟨S, i, none⟩ (.bool true)) b S n R (fun j => f j || j == i) := by
  obtain ⟨F, h1, h2, h3, h4, h5, h6⟩ := h
  have hk : Kept (· = S) w (w.setCell ⟨S, i, none⟩ (.bool true)) := (Kept.refl _ _).put1 _ _
  have h7 := h4.put i (.bool true)
  rw [seenC_put] at h7
  exact ⟨F, h1.kept hk (fun g hg e => h6 (by rw [← e]; exact hg)), h2, h3.setCell (p := ⟨S, i, none⟩) h5 _, h7, h5, h6⟩
theorem OSt.congr {f' : Nat → Bool} (h : OSt w0 w b S n R f) (e : ∀ j, j < n → f j = f' j) : OSt w0 w b S n R f' := by
  obtain ⟨F, h1, h2, h3, h4, h5, h6⟩ := h
  refine ⟨F, h1, h2, h3, ?_, h5, h6⟩
  have : seenC f n = seenC f' n := by
    unfold seenC
    congr 1
    exact List.map_congr_left fun j hj => by rw [e j (List.mem_range.1 hj)]
  rw [← this]; exact h4
/-- .. and the ids that are due, in a slice. -/
def DSt (w0 w : World) (b S n : Nat) (R : List En) (f : Nat → Bool) (v : Value) (xs : List Int) : Prop := OSt w0 w b S n R f ∧ Rd w v xs ∧ ∀ g, v.ownBlock = some g → g ≠ S
theorem DSt.put {v : Value} {xs : List Int} (h : DSt w0 w b S n R f v xs) (i : Nat) : DSt w0 (w.setCell ⟨S, i, none⟩ (.bool true)) b S n R (fun j => f j || j == i) v xs :=
  ⟨h.1.put i, h.2.1.kept (S := (· = S)) ((Kept.refl _ _).put1 _ _) h.2.2, h.2.2⟩
theorem o_due (h : OSt w0 w b S n R f) (now : Int) : Calls Try.prog 19 #[.pointer (some ⟨b, 0, none⟩), .int .i64 now] w fun e w' => ∃ a c', e = .returned (.slice a (due R now).length c') ∧ (due R now).length ≤ c' ∧ c' ≤ 9223372036854775807 ∧ DSt w0 w' b S n (rest R now) f (.slice a (due R now).length c') (ids (due R now)) := by
  obtain ⟨F, h1, h2, h3, h4, h5, h6⟩ := h
  refine (q_due h1 now).mono ?_
  rintro e w' ⟨v, F', rfl, k1, k2, k3, k4, k5⟩
  rw [show (due R now).length = (ids (due R now)).length from (ids_length _).symm] at k4
  obtain ⟨a, c', rfl, hc1, hc2, hr⟩ := (Rd.of_own k4).len
  rw [ids_length] at hc1 hr
  have hlt := k4.lt
  refine ⟨a, c', by rw [ids_length], hc1, hc2, ⟨F', k1, fun g hg => ?_, h3.trans (k2.below h3.size h2), h4.kept k2 h6, h5, fun hf => ?_⟩, hr, fun g hg e => ?_⟩
  · rcases k3 g hg with k | k
    · exact h2 g k
    · have := h3.size; omega
  · rcases k3 S hf with k | k
    · exact h6 k
    · have := h4.lt; omega
  · have := (hlt g (by rw [ids_length]; exact hg)).1
    have := h4.lt
    omega
end

/-! ### the mathematics of one step of time -/
theorem rest_rest {L : List En} (hs : Srt L) {a b : Int} (h : a ≤ b) : rest (rest L a) b = rest L b := by
  have e2 : rest (due L a) b = [] := by
    unfold rest
    rw [List.filter_eq_nil_iff]
    intro x hx
    have := (mem_due.1 hx).2
    simp; omega
  calc rest (rest L a) b = rest (due L a) b ++ rest (rest L a) b := by rw [e2]; rfl
    _ = rest (due L a ++ rest L a) b := by unfold rest; rw [List.filter_append]
    _ = rest L b := by rw [due_append hs a]
/-- What the k-th of the ids that are due is like. -/
theorem due_kth {l : List Int} {n : Nat} (hl : n = l.length) {was now : Int} (_hwn : was ≤ now) {k : Nat} (hk : k < (due (rest (fl l n) was) now).length) :
    ∃ (i : Nat) (t : Int), i < n ∧ l[i]? = some t ∧ (due (rest (fl l n) was) now)[k]? = some ((i : Int), t) ∧ (ids (due (rest (fl l n) was) now))[k]? = some (i : Int) ∧ was < t ∧ t ≤ now ∧ (∀ q j s, q < k → (due (rest (fl l n) was) now)[q]? = some ((j : Int), s) → lt ((j : Int), s) ((i : Int), t) = true) := by
  have h1 : (due (rest (fl l n) was) now)[k]? = some (due (rest (fl l n) was) now)[k] := List.getElem?_eq_getElem hk
  have hm := List.mem_of_getElem? h1
  obtain ⟨h2, h3⟩ := mem_due.1 hm
  obtain ⟨h4, h5⟩ := mem_rest.1 h2
  obtain ⟨i, hi, he⟩ := mem_fl.1 h4
  have hs : Srt (due (rest (fl l n) was) now) := ((fl_srt l n).filter _).filter _
  rw [he] at h1 h3 h5
  refine ⟨i, l.getD i 0, hi, ?_, h1, ?_, h5, h3, fun q j s hq hqs => ?_⟩
  · rw [List.getD_eq_getElem?_getD, List.getElem?_eq_getElem (by omega)]; rfl
  · unfold ids; rw [List.getElem?_map, h1]; rfl
  · have hql := (List.getElem?_eq_some_iff.1 hqs).1
    have := List.pairwise_iff_getElem.1 hs q k hql hk hq
    rw [he, (List.getElem?_eq_some_iff.1 hqs).2] at this
    exact this
end Go.Proofs.Ytlnjgbdekcgmpaa
