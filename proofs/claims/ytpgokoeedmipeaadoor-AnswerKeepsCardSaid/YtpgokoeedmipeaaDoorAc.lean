/- The contract of the program's Parse. -/
import Derived.Test.YtpgokoeedmipeaaDoorAb
namespace Go.Proofs.YtpgokoeedmipeaaDoor
open Go.RowKit Go.Shelf
attribute [local go_sem] Oper.semAt_some

theorem make_ints (m : Nat) (hm : m ≤ 4096) (W : World) : (Instr.makeSlice 29 (.int .i64 0) (.int .i64 m)).run Tryd.prog W = .ok (.slice (some ⟨W.heap.size, 0, none⟩) 0 m) (W.alloc (.cells (madeCells #[Value.int .i64 0] m) 3)) := by
  obtain ⟨i0, hi, hz0, hz1, hz2⟩ := info_parts info_int
  have := run_make (P := Tryd.prog) W 29 3 i0 _ Tryd.underlying29 hi hz0 .i64 .i64 0 m (by omega) (by omega) (by rw [hz2]; omega) (by omega)
  rw [this]
  simp [Value.cells, hz1]

set_option maxRecDepth 100000 in
theorem parse_many (s : ByteArray) (w : World) (h : 2000 < s.size) (h2 : s.size ≤ 140737488351232) : Calls Tryd.prog 13 #[.string s] w (ParseV s.data.toList w) := by
  have hp : Hid (pE s.data.toList = 11) := pE_many (by rw [← size_data]; exact h)
  have hl : Hid (pL s.data.toList = []) := pL_no (by rw [hp.out]; decide)
  go_enter Tryd.func13, Tryd.ntmps13
  go_wp2
  go_ret2
  exact ⟨_, by rw [hp.out]; rfl, by rw [hl.out]; exact Sl.nil _, Below.refl _ _⟩

theorem appended3 {W w1 : World} {N : Nat} {v v' u : Value} {k m : Nat} {xs ys : List Value} {tmp : Obj}
    (hv : Boxed W (N + 1) 29 v) (ht : Boxed W (N + 2) 9 u) (hrow : W.ownsRow N 3 1 v k xs) (hN : N + 3 ≤ W.heap.size)
    (hown' : w1.ownsRow N 3 1 v' m ys) (hgrow : (W.alloc tmp).grownBy w1 v.ownBlock) :
    Boxed w1 (N + 1) 29 v ∧ Boxed (w1.setCell ⟨N + 1, 0, none⟩ v') (N + 1) 29 v' ∧ (w1.setCell ⟨N + 1, 0, none⟩ v').ownsRow N 3 1 v' m ys ∧ KeepsOthers W (w1.setCell ⟨N + 1, 0, none⟩ v') ∧ Below N W (w1.setCell ⟨N + 1, 0, none⟩ v') ∧ KpS (fun k => k = N ∨ k = N + 1) (N + 3) W (w1.setCell ⟨N + 1, 0, none⟩ v') ∧ Boxed (w1.setCell ⟨N + 1, 0, none⟩ v') (N + 2) 9 u := by
  have hv1 : Boxed w1 (N + 1) 29 v := (hv.alloc tmp).kept hgrow (hv.not_row (by decide) hrow)
  have hn2 := ht.not_row (by decide) hrow
  have ht1 : Boxed w1 (N + 2) 9 u := (ht.alloc tmp).kept hgrow hn2
  have hge : ∀ j, v.ownBlock = some j → N ≤ j := fun j ej => (hrow.lt j ej).1
  refine ⟨hv1, hv1.set v', hown'.kept (grownBy_setCell' w1 (N + 1) v') (.inr (hv1.not_row (by decide) hown').symm), ?_, ?_, ?_, ?_⟩
  · refine ((KeepsOthers.alloc W tmp).trans (KeepsOthers.of_grownBy hgrow fun j o ej hj => ?_)).trans (KeepsOthers.setCell _ _ _)
    rcases (hrow.alloc tmp).2 with ⟨rfl, _⟩ | ⟨g, cap, cur, rfl, _, hgb, _⟩
    · simp [Value.ownBlock] at ej
    · obtain rfl : g = j := by simpa [Value.ownBlock] using ej
      rw [hgb] at hj; cases hj; rfl
  · exact (((Below.refl N W).alloc (by omega) tmp).grown hgrow (by simp; omega) fun j ej => hge j ej).setCell (p := ⟨N + 1, 0, none⟩) (by simp) v'
  · intro j hj hx
    have hx1 : j ≠ N := fun e => hx (.inl e)
    have hx2 : j ≠ N + 1 := fun e => hx (.inr e)
    rw [Below.heap_setCell _ _ _ _ hx2, hgrow.block j (by simp; omega) (fun e => ?_)]
    · exact Below.heap_alloc _ _ _ (by omega)
    · have h1 := hge j e.symm
      have h2 : j = N + 2 := by omega
      subst h2
      exact hn2 e
  · exact (Below.heap_setCell w1 ⟨N + 1, 0, none⟩ v' (N + 2) (by simp)).trans ht1

set_option maxRecDepth 100000 in
set_option maxHeartbeats 2000000 in
theorem parse_few (s : ByteArray) (w : World) (he : Env w) (hs : s.size ≤ 2000) : Calls Tryd.prog 13 #[.string s] w (ParseV s.data.toList w) := by
  obtain ⟨i0, hi, hz0, hz1, hz2⟩ := info_parts info_int
  have hmk := make_ints s.size (by omega)
  have HE := Lib.hid he
  have HSZ := Lib.hid (size_data s)
  clear he
  refine (callsIn_wide (n := 3)).1 ?_
  refine callsIn_of_wp_marks Tryd.func13 rfl trivial ?_ rfl
  simp only [Tryd.ntmps13, List.size_toArray, List.length_cons, List.length_nil, Nat.reduceAdd, Nat.reduceSub, Array.replicate_succ, Array.replicate_zero, List.push_toArray, List.append_toArray, List.nil_append, List.cons_append]
  gi_wp2_with (refine ⟨trivial, ?_⟩; gi_at_call 19; refine (callsIn_wide.2 (said_ok _ _)).mono ?_; rintro e w' ⟨rfl, rfl⟩)
  have b0 := Bk.new w 3 (madeCells #[Value.int .i64 0] s.size)
  obtain ⟨w1, hw1⟩ : ∃ w1, w.alloc (.cells (madeCells #[Value.int .i64 0] s.size) 3) = w1 := ⟨_, rfl⟩
  rw [hw1] at b0 ⊢
  have hs1 : w1.heap.size = w.heap.size + 1 := by rw [← hw1]; simp
  have hB1 : Below w.heap.size w w1 := by rw [← hw1]; exact (Below.refl _ w).alloc (Nat.le_refl _) _
  have b1 := Boxed.new w1 29 (.slice (some ⟨w.heap.size, 0, none⟩) 0 s.size)
  have b2 := Boxed.new (w1.alloc (.cells #[.slice (some ⟨w.heap.size, 0, none⟩) 0 s.size] 29)) 9 (.string s)
  rw [World.size_alloc, hs1] at b2
  rw [hs1] at b1
  obtain ⟨w2, hw2⟩ : ∃ w2, (w1.alloc (.cells #[.slice (some ⟨w.heap.size, 0, none⟩) 0 s.size] 29)).alloc (.cells #[.string s] 9) = w2 := ⟨_, rfl⟩
  rw [hw2] at b2 ⊢
  have b1' : Boxed w2 (w.heap.size + 1) 29 (.slice (some ⟨w.heap.size, 0, none⟩) 0 s.size) := by rw [← hw2]; exact b1.alloc _
  have hsz : w2.heap.size = w.heap.size + 3 := by rw [← hw2]; simp [hs1]
  have hB0 : Below w.heap.size w w2 := by rw [← hw2]; exact (hB1.alloc (by omega) _).alloc (by simp; omega) _
  have hmz : (madeCells #[Value.int .i64 0] s.size).size = s.size * 1 := by
    have := size_madeCells #[Value.int .i64 0] s.size
    simpa using this
  have hrow0 : w2.ownsRow w.heap.size 3 1 (.slice (some ⟨w.heap.size, 0, none⟩) 0 s.size) 0 [] :=
    ⟨rfl, .inr ⟨w.heap.size, s.size, _, rfl, Nat.le_refl _, by rw [← hw2]; exact (b0.same (Below.heap_alloc _ _ _ (by omega))).same (Below.heap_alloc _ _ _ (by simp; omega)), Nat.zero_le _, by unfold maxLen; omega, hmz, rfl⟩⟩
  have hA : SaidAt w2 (fun k => k = w.heap.size ∨ k = w.heap.size + 1) (w.heap.size + 3) (w.heap.size + 2) s :=
    ⟨b2.cell, HE.out.below hB0, by omega, by have := HE.out.lt; omega, by omega, by have := HE.out.lt; omega⟩
  have hseq := said_stops 2 (by decide) (w.heap.size + 2) (w.heap.size + 3) s hs _ w2 hA (by omega)
  have HSEQ := Lib.hid hseq
  clear hseq hA hmk
  refine wpIn_rangeFunc_ownG rfl (by decide) (gf := 21) (lb := #[.pointer (some ⟨w.heap.size + 2, 0, none⟩)]) rfl trivial (enters_of Tryd.func21 (by kernel_rfl) rfl)
    HSEQ.out KpS.trans (kpS_b (by omega)) (Below.refl _ _) (fun _ => rfl)
    (fun pre W => (((∃ v, Boxed W (w.heap.size + 1) 29 v ∧ W.ownsRow w.heap.size 3 1 v pre.length (ints pre) ∧ True) ∧ w.heap.size + 3 ≤ W.heap.size) ∧ Boxed W (w.heap.size + 2) 9 (.string s)) ∧ Below w.heap.size w W)
    (fun _ _ _ => False)
    (OwnFrom.and (OwnFrom.and (OwnFrom.and (Own.from (holdsRow_own w.heap.size (w.heap.size + 1) 29 3 1 (fun pre => pre.length) (fun pre => ints pre) (fun _ _ => True)) _) (fun _ _ _ _ hs hg _ => Nat.le_trans hs hg.size)) (Own.from (fun _ _ _ _ hs hg hr => hs.kept hg (fun e' => by obtain ⟨o, ho, hc⟩ := hr _ e'.symm; rw [show _ = _ from hs] at ho; cases ho; cases hc)) _)) (ownFrom_below (Nat.le_refl _) (by omega)))
    (fun _ _ _ _ _ hs _ _ => hs)
    ⟨⟨⟨⟨_, b1', hrow0, trivial⟩, by omega⟩, b2⟩, hB0⟩
    (fun x => { tmps := #[.string s, undef, .slice none 0 0, .int .i64 0, .pointer (some ⟨w.heap.size + 1, 0, none⟩), .int .i64 x, .string s, .int .i64 s.size, .bool (decide (2000 < (s.size : Int))), .string s, .int .i64 s.size, .slice (some ⟨w.heap.size, 0, none⟩) 0 s.size, .string s, .func (.func 21) #[] #[.pointer (some ⟨w.heap.size + 2, 0, none⟩)], .int .i64 x, undef, undef, undef, undef, undef, undef, undef, undef, undef, undef], defers := [] }) ?assign ?body ?done ?stop
  case assign =>
    intro l x W K hK
    gi_wp2
    exact hK
  case body =>
    rintro l pre x W ⟨⟨⟨⟨v, hv, hrow, _⟩, hsW⟩, hT⟩, hB⟩ hlt2
    have hc := hv.cell
    have hlt3 : pre.length < 2001 := by
      have h1 := first_le s.data.toList
      have h2 := HSZ.out
      rw [nums_length] at hlt2
      omega
    clear hlt2
    gi_wp2_with (gi_at_builtin; refine wpListIn_append_own _ rfl _ _ 29 rfl w.heap.size 3 i0 (.int .i64 0) 1 8 Tryd.underlying29 hi hz0 hz1 hz2 rfl (by decide) _ _ _ rfl (hrow.alloc _) ⟨W.heap.size, 0, none⟩ 1 1 [.int .i64 x] rfl rfl (cell_one_new _ _ _) (by simp [Value.oneCell']) (by unfold maxLen; omega) (by omega) (by simp; omega) ?_; intro v' w3 hown' hgrow _; obtain ⟨g', cap', rfl⟩ := ownsRow_succ hown'; obtain ⟨hv1, hv2, hr2, hk2, hb2, hkp, ht2⟩ := appended3 hv hT hrow hsW hown' hgrow; have hc1 := hv1.cell; have hf1 := hv1.frozen)
    exact ⟨hk2.from _, hkp, ⟨⟨⟨_, hv2, by simpa [ints] using hr2, trivial⟩, Nat.le_trans hsW hb2.size⟩, ht2⟩, hB.trans hb2⟩
  case done =>
    rintro D ys W hD rfl ⟨⟨⟨⟨v, hv, hrow, _⟩, hsW⟩, hT⟩, hB⟩ hK
    have hc := hv.cell
    have hsl := Sl.of_own hrow
    obtain ⟨a, c, rfl, hsl'⟩ := hsl.len
    have hrow' := Sl.of_own (ownsRow_putObj hrow (.deferred none) hK rfl)
    have hbe := hB.trans (belowK_b (w := w) (Nat.le_refl _) W D _ (.deferred none) (by omega) hK rfl rfl)
    have hll : (nums (first_ s.data.toList)).length = (first_ s.data.toList).length := nums_length _
    have HR := Lib.hid (And.intro hrow' hbe)
    have HLL := Lib.hid hll
    clear hrow' hbe hsl hsl' hrow hll
    by_cases hg : Good s.data.toList
    · have hfe := first_all hg
      have hpe : pE s.data.toList = 0 := pE_ok (by rw [← HSZ.out]; exact hs) hg
      have hpl : pL s.data.toList = nums (first_ s.data.toList) := by rw [pL_ok hpe, hfe]
      have HP := Lib.hid (And.intro hpe hpl)
      have hlen : (nums (first_ s.data.toList)).length = s.size := by rw [nums_length, hfe, HSZ.out]
      clear hfe hpe hpl hg
      generalize nums (first_ s.data.toList) = N at *
      rw [hlen] at hc
      gi_wp2
      refine ⟨by simp, .inl ⟨_, _, rfl, run_takeDeferred hK, ?_⟩⟩
      refine ⟨.tuple #[.slice a s.size c, .int .i64 0], ?_, _, by rw [HP.out.1]; rfl, ?_, HR.out.2⟩
      · simp [results, Tryd.f13, go_sem]
      · rw [HP.out.2]
        have := HR.out.1
        rwa [hlen] at this
    · have hlt := first_lt hg
      have hpe : pE s.data.toList = 9 := pE_form (by rw [← HSZ.out]; exact hs) hg
      have hpl : pL s.data.toList = [] := pL_no (by rw [hpe]; decide)
      have HP := Lib.hid (And.intro hpe hpl)
      have hlen : (nums (first_ s.data.toList)).length < s.size := by rw [nums_length, HSZ.out]; exact hlt
      clear hlt hpe hpl hg
      generalize nums (first_ s.data.toList) = N at *
      gi_wp2
      refine ⟨by simp, .inl ⟨_, _, rfl, run_takeDeferred hK, ?_⟩⟩
      refine ⟨.tuple #[.slice none 0 0, .int .i64 9], ?_, _, by rw [HP.out.1]; rfl, ?_, HR.out.2⟩
      · simp [results, Tryd.f13, go_sem]
      · rw [HP.out.2]
        exact Sl.nil _
  case stop =>
    rintro D c pre W _ _ h _
    exact h.elim
theorem parse_ok (s : ByteArray) (w : World) (he : Env w) (h : s.size ≤ 140737488351232) : Calls Tryd.prog 13 #[.string s] w (ParseV s.data.toList w) := by
  by_cases h1 : s.size ≤ 2000
  · exact parse_few s w he h1
  · exact parse_many s w (by omega) h
end Go.Proofs.YtpgokoeedmipeaaDoor
