/- Files that are asked for and closed, with answers that were told before: what a world with no other calls holds; the bundle of the walk. -/
import Derived.Test.YtpinmiplefidpaaGreatDoorOta
namespace Go.Proofs.YtpinmiplefidpaaGreatDoor
open Go.RowKit

/-- The answers that bytes stand for. -/
def answ (B : Nat → Int) (i : Nat) : Int := 1 + (B i).tmod 3
def answs (B : Nat → Int) (n : Nat) : List Int := (List.range n).map (answ B)
theorem answs_len (B : Nat → Int) (n : Nat) : (answs B n).length = n := by simp [answs]
theorem answs_snoc (B : Nat → Int) (n : Nat) : answs B (n + 1) = answs B n ++ [answ B n] := by simp [answs, List.range_succ]
theorem answ_le {B : Nat → Int} (h : ∀ j, 0 ≤ B j ∧ B j ≤ 255) (i : Nat) : 1 ≤ answ B i ∧ answ B i ≤ 3 := by
  unfold answ
  rw [Int.tmod_eq_emod_of_nonneg (h i).1]
  omega
theorem answs_ans {B : Nat → Int} (h : ∀ j, 0 ≤ B j ∧ B j ≤ 255) (n : Nat) : AN.Ans (answs B n) := fun x hx => by
  obtain ⟨i, _, rfl⟩ := List.mem_map.1 hx
  exact answ_le h i
theorem answs_at (B : Nat → Int) (n k : Nat) : ((answs B n).drop k).headD 1 = if k < n then answ B k else 1 := by
  unfold answs
  rw [← List.map_drop]
  split
  · rename_i h
    rw [List.drop_eq_getElem_cons (by simpa using h)]
    simp
  · rename_i h
    rw [List.drop_eq_nil_of_le (by simpa using Nat.le_of_not_lt h)]
    rfl

/-- A world of files alone: its answers, its ledger, no place of it retired. -/
structure Told (W : Wd) (L : List Int) (i k : Nat) : Prop where
  ok : W.Ok
  l : W.L = L.drop k
  b : W.B.length ≤ i
  s : ∀ j, W.F.t.s j ≠ 2
  g : ∀ j, W.F.t.g j ≤ i + 1
theorem Told.zero {L : List Int} (h1 : AN.Ans L) (h2 : L.length ≤ 100) : (wfresh 1).sE (AN.text L) = 0 ∧ Told ((wfresh 1).said (AN.text L)) L 0 0 := by
  have hl : (AN.text L).length ≤ 2000 := by rw [AN.text_length]; omega
  have hp := AN.pE_ok hl (AN.good_text h1)
  have e : AN.aE [] (AN.text L) = 0 := AN.aE_ok hp (by simp only [List.length_nil]; omega)
  refine ⟨show ((AN.aE [] (AN.text L) : Nat) : Int) = 0 by rw [e]; rfl, (wfresh_ok (by decide) (by decide)).said _, ?_, Nat.le_refl _, fun j => by show (0 : Nat) ≠ 2; decide, fun j => ?_⟩
  · show AN.aL [] (AN.text L) = L
    rw [AN.aL_ok e, AN.nums_text h1]
    rfl
  · show (if j < 64 then 1 else 0) ≤ 0 + 1
    split <;> omega
theorem Told.h {W : Wd} {B : Nat → Int} {n i k : Nat} (h : Told W (answs B n) i k) : W.h = if k < n then answ B k else 1 := by
  unfold Wd.h
  rw [h.l, answs_at]
theorem Told.more {W : Wd} {L : List Int} {i k : Nat} (h : Told W L i k) : Told W L (i + 1) k := ⟨h.ok, h.l, Nat.le_succ_of_le h.b, h.s, fun j => by have := h.g j; omega⟩
/-- As long as there are fewer than 64, a place is free. -/
theorem Told.free {W : Wd} {L : List Int} {i k : Nat} (h : Told W L i k) (h64 : W.all.length < 64) : W.F.oE = 0 := by
  have h1 := sel_all h.ok.F.t.st W.F.t.n
  have h2 : (sel W.F.t.s 2 W.F.t.n) = [] := by
    rw [List.eq_nil_iff_forall_not_mem]
    intro j hj
    exact h.s j (mem_sel.1 hj).2
  have h3 := W.all_len
  have h4 := h.ok.nF
  rw [h2] at h1
  have h5 : W.F.t.free.length ≠ 0 := by
    have e1 : W.F.t.free = sel W.F.t.s 0 W.F.t.n := rfl
    have e2 : W.F.t.held = sel W.F.t.s 1 W.F.t.n := rfl
    rw [e2] at h3
    rw [e1]
    simp only [List.length_nil] at h1
    omega
  unfold FD.Fb.oE
  cases hf : W.F.t.free with
  | nil => rw [hf] at h5; exact absurd rfl h5
  | cons a l => rfl
theorem Wd.acq_L {W : Wd} {k x : Int} (h : W.gE k x = 0) : (W.acq k x).L = W.L.tail := by
  unfold Wd.acq
  rw [if_pos h]
  split
  · unfold Wd.got
    split
    · rfl
    · split <;> rfl
  · rfl
theorem Wd.rel_L {W : Wd} {k i g y : Int} (h : W.lE k i g y = 0) : (W.rel k i g y).L = W.L.tail := by
  unfold Wd.rel
  rw [if_pos h]
  split <;> rfl
/-- What Acquire says, and what it leaves. -/
theorem Told.acq {W : Wd} {L : List Int} {i k : Nat} (h : Told W L i k) (h64 : W.all.length < 64) (hi : i ≤ 1000) : W.aE 1 i = (if W.h = 2 then 15 else if W.h = 3 then 14 else 0) ∧ Told (W.acq 1 i) L (i + 1) (k + 1) := by
  have hg : W.gE 1 i = 0 := by
    unfold Wd.gE
    rw [if_pos rfl, if_pos ⟨by omega, by omega⟩]
    exact h.free h64
  refine ⟨by unfold Wd.aE; rw [if_pos hg], h.ok.acq _ _, ?_, by rw [Wd.acq_B]; have := h.b; omega, ?_, ?_⟩
  · rw [Wd.acq_L hg, h.l]; simp
  · intro j
    by_cases ha : W.aE 1 i = 0
    · obtain ⟨_, _, q, _, _, _, _, _, e, _⟩ := h.ok.acquired ha
      show ((W.acq 1 i).tab 1).s j ≠ 2
      rw [e]
      show put (W.F.t.s) q 1 j ≠ 2
      unfold put
      split
      · decide
      · exact h.s j
    · show ((W.acq 1 i).tab 1).s j ≠ 2
      rw [Wd.acq_no_tab ha]
      exact h.s j
  · intro j
    have := h.g j
    by_cases ha : W.aE 1 i = 0
    · obtain ⟨_, _, q, _, _, _, _, _, e, _⟩ := h.ok.acquired ha
      show ((W.acq 1 i).tab 1).g j ≤ _
      rw [e]
      show W.F.t.g j ≤ _
      omega
    · show ((W.acq 1 i).tab 1).g j ≤ _
      rw [Wd.acq_no_tab ha]
      show W.F.t.g j ≤ _
      omega
/-- What Release says of a resource that is there, and what it leaves. -/
theorem Told.rel {W : Wd} {L : List Int} {i k : Nat} {a b g : Int} (h : Told W L i k) (hm : (⟨a, b, g⟩ : Ro) ∈ W.all) (hi : i ≤ 1000) : W.lE a b g 1 = 0 ∧ W.lA a b g 1 = W.h ∧ Told (W.rel a b g 1) L (i + 1) (k + 1) := by
  have hh := h.ok.mem.1 hm
  have hl : W.lE a b g 1 = 0 := by
    unfold Wd.lE
    rw [if_neg (Classical.not_not.2 ⟨h.ok.poss hh, by decide, by decide⟩), if_neg (Classical.not_not.2 hh), if_neg (by have := h.b; omega)]
  refine ⟨hl, by unfold Wd.lA; rw [if_pos hl], h.ok.rel _ _ _ _, ?_, by rw [Wd.rel_B hl, List.length_append]; have := h.b; simp only [List.length_singleton]; omega, ?_, ?_⟩
  · rw [Wd.rel_L hl, h.l]; simp
  · intro j
    show ((W.rel a b g 1).tab 1).s j ≠ 2
    by_cases h1 : W.h = 1
    · obtain ⟨_, _, q, rfl, _, _, hg, e, e2⟩ := h.ok.released hl h1
      by_cases ha : a = 1
      · subst ha
        rw [e]
        show (W.F.t.gave q).s j ≠ 2
        have hg2 := h.g q
        unfold Tb.gave
        rw [if_neg (by omega)]
        show put W.F.t.s q 0 j ≠ 2
        unfold put
        split
        · decide
        · exact h.s j
      · rw [e2 1 (fun c => ha c.symm) (by decide) (by decide)]
        exact h.s j
    · rw [Wd.rel_no_tab (fun c => h1 c.2)]
      exact h.s j
  · intro j
    show ((W.rel a b g 1).tab 1).g j ≤ _
    have hj := h.g j
    by_cases h1 : W.h = 1
    · obtain ⟨_, _, q, rfl, _, _, hg, e, e2⟩ := h.ok.released hl h1
      by_cases ha : a = 1
      · subst ha
        rw [e]
        show (W.F.t.gave q).g j ≤ _
        have hg2 := h.g q
        unfold Tb.gave
        rw [if_neg (by omega)]
        show put W.F.t.g q (W.F.t.g q + 1) j ≤ _
        unfold put
        split <;> omega
      · rw [e2 1 (fun c => ha c.symm) (by decide) (by decide)]
        show W.F.t.g j ≤ _
        omega
    · rw [Wd.rel_no_tab (fun c => h1 c.2)]
      show W.F.t.g j ≤ _
      omega

/-! ### the bundle -/
/-- A world beside the boxes of the closure. -/
structure Tod (w0 w : World) (A : Ad) (W : Wd) (P Q : Nat) (k : Nat) (sl : Value) : Prop where
  s : WSt w0 w A W
  p : Bk w P 3 #[.int .i64 k]
  np : ¬ WFoot w A P
  q : Bk w Q 73 #[sl]
  lo : w0.heap.size ≤ P
  lo2 : w0.heap.size ≤ Q
section
variable {w0 w w' : World} {A : Ad} {W U : Wd} {P Q k : Nat} {sl : Value}
theorem Tod.start (h : WSt w0 w A W) (hq : Bk w Q 73 #[sl]) (lo : w0.heap.size ≤ Q) : Tod w0 (w.alloc (.cells #[.int .i64 0] 3)) A W w.heap.size Q 0 sl :=
  ⟨h.quiet (bel_new _ _), Bk.new w 3 #[.int .i64 0], fun c => by
    have := h.f.foot_lt (((h.f.below (bel_new w _)).2 _).1 c)
    omega, hq.below (bel_new _ _), h.bel.size, lo⟩
theorem Tod.quiet (h : Tod w0 w A W P Q k sl) (b : Below w.heap.size w w') : Tod w0 w' A W P Q k sl :=
  ⟨h.s.quiet b, h.p.below b, fun c => h.np (((h.s.f.below b).2 P).1 c), h.q.below b, h.lo, h.lo2⟩
theorem Tod.step (h : Tod w0 w A W P Q k sl) (f : WSt w0 w' A U) (b : WStep A w w') : Tod w0 w' A U P Q k sl :=
  ⟨f, h.p.kept b.k h.np, fun c => by
    rcases b.g P c with x | x
    · exact h.np x
    · have := h.p.lt; omega, b.keep h.s.f h.q, h.lo, h.lo2⟩
theorem Tod.put {k' : Nat} (h : Tod w0 w A W P Q k sl) (c : Bk w' P 3 #[.int .i64 k']) (b : Kept (· = P) w w') : Tod w0 w' A W P Q k' sl := by
  have hne : ∀ g, WFoot w A g → ¬ g = P := fun g hg e => h.np (by rw [← e]; exact hg)
  obtain ⟨h1, h2⟩ := h.s.f.kept b hne
  refine ⟨⟨h1, h.s.bel.trans (b.below h.s.bel.size fun g e => by have := h.lo; omega), fun g hg => h.s.lo g ((h2 g).1 hg)⟩, c, fun c => h.np ((h2 P).1 c), h.q.kept b (fun e => by subst e; exact absurd (h.q.uniq h.p).1 (by decide)), h.lo, h.lo2⟩
end
set_option maxRecDepth 100000 in
/-- The closure: the next answer. -/
theorem told1_ok (P Q k len cap : Nat) (a : Option Addr) (B : Nat → Int) (w : World) (hP : Bk w P 3 #[.int .i64 k]) (hQ : Bk w Q 73 #[.slice a len cap]) (hB : Bys w a len B) (hk : k ≤ 1000) (hl : len ≤ 1000) :
    Calls Tryz.prog 47 #[.pointer (some ⟨P, 0, none⟩), .pointer (some ⟨Q, 0, none⟩)] w fun e w' => e = .returned (.int .i64 (if k < len then answ B k else 1)) ∧ Hid (Bk w' P 3 #[.int .i64 ((k + 1 : Nat) : Int)] ∧ Kept (· = P) w w') := by
  have hne : Q ≠ P := by rintro rfl; exact absurd (hQ.uniq hP).1 (by decide)
  have p0 := hP.cell 0
  have q0 := hQ.cell 0
  simp only [List.getElem?_toArray, List.getElem?_cons_zero] at p0 q0
  have pf := hP.frozen 0
  have p1 : (w.setCell ⟨P, 0, none⟩ (.int .i64 (k + 1))).cell? ⟨P, 0, none⟩ = some (.int .i64 (k + 1)) := (hP.put 0 (.int .i64 (k + 1))).cell 0
  have K1 : Kept (· = P) w (w.setCell ⟨P, 0, none⟩ (.int .i64 (k + 1))) := (Kept.refl (· = P) w).put (p := ⟨P, 0, none⟩) (.inr rfl) _
  have q1 : (w.setCell ⟨P, 0, none⟩ (.int .i64 (k + 1))).cell? ⟨Q, 0, none⟩ = some (.slice a len cap) := (hQ.kept K1 hne).cell 0
  have HF : Hid (Bk (w.setCell ⟨P, 0, none⟩ (.int .i64 (k + 1))) P 3 #[.int .i64 ((k + 1 : Nat) : Int)] ∧ Kept (· = P) w (w.setCell ⟨P, 0, none⟩ (.int .i64 (k + 1)))) := ⟨hP.put 0 _, K1⟩
  by_cases hlt : k < len
  · obtain ⟨b, off, rfl, hb, hc⟩ := hB.at_ (by omega)
    have hbP : Hid (b ≠ P) := fun e => by
      subst e
      have c0 := hc k hlt
      rw [hP.cell] at c0
      generalize off + k = m at c0
      cases m with
      | zero => simp at c0
      | succ m => simp at c0
    have hc1 : (w.setCell ⟨P, 0, none⟩ (.int .i64 (k + 1))).cell? ⟨b, off + k, none⟩ = some (.int .u8 (B k)) := by
      exact kept_cell K1 (hc k hlt) hbP.out
    have h0 := hB.bd k
    rw [if_pos hlt]
    unfold answ
    generalize B k = x at *
    have hr : (0 : Int) ≤ x % 3 ∧ x % 3 ≤ 2 := by omega
    have he : x.tmod 3 = x % 3 := Int.tmod_eq_emod_of_nonneg h0.1
    rw [he]
    clear he
    clear hP hQ hB hc
    have hcv : (k : Int) + 1 - 1 = k := by omega
    go_enter Tryz.func47, Tryz.ntmps47
    go_wp2
    go_ret
    exact ⟨rfl, HF⟩
  · rw [if_neg hlt]
    clear hB hP hQ
    go_enter Tryz.func47, Tryz.ntmps47
    go_wp2
    go_ret
    exact ⟨rfl, HF⟩
end Go.Proofs.YtpinmiplefidpaaGreatDoor
